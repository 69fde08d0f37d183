package tests

import (
	"crypto/sha256"
	"encoding/hex"
	"math/rand"
	"regexp"
	"slices"
	"strconv"
	"strings"
	"testing"

	"loop.example/wellhead/impl"
)

// lineFrom is a line of a log of parts that need not be right; its sum is that of these.
func lineFrom(num string, length string, record string) string {
	sum := sha256.Sum256([]byte(num + " " + length + " " + record))
	return num + " " + length + " " + hex.EncodeToString(sum[:8]) + " " + record + "\n"
}

// lineOf is a record as it stands in a log at a place.
func lineOf(place int, record string) string {
	return lineFrom(strconv.Itoa(place), strconv.Itoa(len(record)), record)
}

// logOf is the log of records.
func logOf(records []string) string {
	log := ""
	for place, record := range records {
		log += lineOf(place, record)
	}
	return log
}

// headPattern is what stands ahead of a record.
var headPattern = regexp.MustCompile(`^([0-9]{1,6}) ([0-9]{1,6}) [0-9a-f]{16} `)

// wantRead reads a log by a pattern, and by what each record would stand as.
func wantRead(log string) ([]string, int) {
	var records []string
	bytes := 0
	for {
		rest := log[bytes:]
		head := headPattern.FindStringSubmatch(rest)
		if head == nil {
			return records, bytes
		}
		length, _ := strconv.Atoi(head[2])
		end := len(head[0]) + length
		if length < 1 || length > 500 || end >= len(rest) {
			return records, bytes
		}
		line := lineOf(len(records), rest[len(head[0]):end])
		if !strings.HasPrefix(rest, line) {
			return records, bytes
		}
		records = append(records, rest[len(head[0]):end])
		bytes += len(line)
	}
}

// checkLog holds all that is read of a text against the pattern.
func checkLog(t *testing.T, log string) {
	t.Helper()
	want, wantBytes := wantRead(log)
	records, bytes := impl.LogRead(log)
	if !slices.Equal(records, want) || bytes != wantBytes {
		t.Fatalf("LogRead of %q is %q %d, not %q %d", log, records, bytes, want, wantBytes)
	}
	if got := impl.LogOk(log); got != (wantBytes == len(log) && len(log) <= 9000) {
		t.Fatalf("LogOk of %q is %#v", log, got)
	}
	mended := impl.LogMend(log)
	if mended != log[:wantBytes] {
		t.Fatalf("LogMend of %q is %q", log, mended)
	}
	again, againBytes := impl.LogRead(mended)
	if !slices.Equal(again, want) || againBytes != len(mended) {
		t.Fatalf("LogRead of LogMend of %q is %q %d", log, again, againBytes)
	}
}

// mustLog puts a record behind a log, which has to be possible.
func mustLog(t *testing.T, log string, record string) string {
	t.Helper()
	added, ok := impl.LogAdd(log, record)
	if !ok {
		t.Fatalf("LogAdd of %q to %q is false", record, log)
	}
	return added
}

// trickyRecords have newlines, or look like records or parts of such.
func trickyRecords() []string {
	return []string{
		"a", "0 a:text", "0 a:", "\n", "\n\n\n", "a\n", "\na", "a\nb\nc", " ", "  ", " a ", "\x00", "\xff\xfe", "caf\xc3\xa9", "\r\n", ":", "0", "1 1 ",
		lineOf(0, "x"), lineOf(1, "x"), lineOf(2, "y\n"), "x\n" + lineOf(1, "x"), lineOf(0, lineOf(0, "x")), lineOf(1, "x") + lineOf(2, "x"), strings.TrimSuffix(lineOf(1, "x"), "\n"),
		strings.Repeat("a", 9), strings.Repeat("a", 10), strings.Repeat("b", 99), strings.Repeat("b", 100), strings.Repeat("\n", 499), strings.Repeat("z", 500), noughts(500),
	}
}

// someRecord draws a record.
func someRecord(r *rand.Rand) string {
	if r.Intn(2) == 0 {
		tricky := trickyRecords()
		return tricky[r.Intn(len(tricky))]
	}
	return someBlock(r, []int{1, 1 + r.Intn(20), 1 + r.Intn(impl.LineMax), impl.LineMax}[r.Intn(4)])
}

// someRecords draws records that have room in a log, and for another one.
func someRecords(r *rand.Rand) []string {
	var records []string
	for range r.Intn(12) {
		records = append(records, someRecord(r))
	}
	return records
}

func TestP26WhatWasPutIsTheLastRecord(t *testing.T) {
	r := newSource(81)
	for range 60 {
		var records []string
		log := ""
		for range 14 {
			record := someRecord(r)
			added, ok := impl.LogAdd(log, record)
			if want := logOf(append(slices.Clone(records), record)); !ok || added != want {
				t.Fatalf("LogAdd of %q to %q is %q %#v, not %q", record, log, added, ok, want)
			}
			records, log = append(records, record), added
			got, bytes := impl.LogRead(log)
			if !slices.Equal(got, records) || bytes != len(log) || !impl.LogOk(log) {
				t.Fatalf("LogRead of %q is %q %d", log, got, bytes)
			}
			checkLog(t, log)
		}
	}
}

func TestP26ALogByBytes(t *testing.T) {
	log := mustLog(t, mustLog(t, "", "0 a:text"), "0 a:")
	if log != "0 8 597c05da7ecf4aec 0 a:text\n1 4 f70f2eeb74968fae 0 a:\n" {
		t.Errorf("the log is %q", log)
	}
	if records, bytes := impl.LogRead(""); len(records) != 0 || bytes != 0 || !impl.LogOk("") || impl.LogMend("") != "" {
		t.Errorf("LogRead of nothing is %q %d", records, bytes)
	}
}

func TestP26RecordsThatAreTooLongOrEmpty(t *testing.T) {
	for _, records := range [][]string{nil, {"a", "b\n"}} {
		log := logOf(records)
		if added := mustLog(t, log, strings.Repeat("x", 500)); !impl.LogOk(added) {
			t.Errorf("a record of LineMax bytes is not read in %q", added)
		}
		for _, record := range []string{"", strings.Repeat("x", 501), strings.Repeat("\n", 502), strings.Repeat("x", 9000), strings.Repeat("x", 100000)} {
			if added, ok := impl.LogAdd(log, record); ok || added != "" {
				t.Errorf("LogAdd of %d bytes is %q %#v", len(record), added, ok)
			}
			for _, bytes := range []int{-1, 0, 1, 20, 600, tooBig, tooSmall} {
				if got := impl.LogTorn(log, record, bytes); got != log {
					t.Errorf("LogTorn of %d bytes is %q", len(record), got)
				}
			}
			// Were it there, it would be none.
			forged := log + lineOf(len(records), record)
			checkLog(t, forged)
			if got := impl.LogMend(forged); got != log {
				t.Errorf("LogMend of a record of %d bytes is %q", len(record), got)
			}
		}
	}
}

// fullLog is a log of so many bytes, and its records.
func fullLog(t *testing.T, bytes int) (string, []string) {
	t.Helper()
	var records []string
	log := ""
	for bytes-len(log) > 1100 {
		records = append(records, strings.Repeat("r", 500))
		log += lineOf(len(records)-1, records[len(records)-1])
	}
	for size := 1; size <= 500; size++ {
		// Two records, so that what is left can be met by the byte.
		first := lineOf(len(records), strings.Repeat("s", size))
		left := bytes - len(log) - len(first)
		second := left - len(lineOf(len(records)+1, strings.Repeat("s", 200))) + 200
		if second >= 100 && second <= 500 && len(lineOf(len(records)+1, strings.Repeat("s", second))) == left {
			records = append(records, strings.Repeat("s", size), strings.Repeat("s", second))
			return logOf(records), records
		}
	}
	t.Fatalf("no log of %d bytes", bytes)
	return "", nil
}

func TestP26LogMaxText(t *testing.T) {
	for _, bytes := range []int{8998, 8999, 9000} {
		log, records := fullLog(t, bytes)
		last := len(records) - 1
		added, ok := impl.LogAdd(logOf(records[:last]), records[last])
		if len(log) != bytes || !ok || added != log || !impl.LogOk(log) {
			t.Errorf("LogAdd up to %d bytes is %q %#v", bytes, added, ok)
		}
		if more, ok := impl.LogAdd(log, "x"); ok || more != "" {
			t.Errorf("LogAdd to %d bytes is %q %#v", bytes, more, ok)
		}
		if got := impl.LogTorn(log, "x", 5); got != log {
			t.Errorf("LogTorn of %d bytes is %q", bytes, got)
		}
	}
	for _, bytes := range []int{9001, 9002, 9100, 20000} {
		log, records := fullLog(t, bytes)
		last := len(records) - 1
		if added, ok := impl.LogAdd(logOf(records[:last]), records[last]); len(log) != bytes || ok || added != "" {
			t.Errorf("LogAdd up to %d bytes is %q %#v", bytes, added, ok)
		}
		if got := impl.LogTorn(logOf(records[:last]), records[last], 3); got != logOf(records[:last]) {
			t.Errorf("LogTorn up to %d bytes is %q", bytes, got)
		}
		// All of it is read, but it is not ok.
		got, read := impl.LogRead(log)
		if !slices.Equal(got, records) || read != bytes || impl.LogOk(log) || impl.LogMend(log) != log || impl.LogTorn(log, "x", 9) != log {
			t.Errorf("LogRead of %d bytes reads %d", bytes, read)
		}
		if added, ok := impl.LogAdd(log, "x"); ok || added != "" {
			t.Errorf("LogAdd to %d bytes is %q %#v", bytes, added, ok)
		}
	}
}

// wrongLines are nearly the line of the record `text` at the place 1.
func wrongLines() []string {
	right := lineOf(1, "text")
	sum := strings.Fields(right)[2]
	lines := []string{
		"", "\n", "1", "1 ", "1 4", "1 4 ", "1 4 " + sum, "1 4 " + sum + " ", "1 4 " + sum + " \n", "1 4 " + sum + " tex", "1 4 " + sum + " text", "1 4 " + sum + " texttext", "1 4 " + sum + " text ", "1 4 " + sum + " text\r\n", "1 4 " + sum + " text\x00",
		"1 4 " + sum + " texx\n", "1 4 " + sum + " Text\n", "1 4 " + sum + " tex\n", "1 4 " + sum + " texts\n", "1 4 " + sum + "  text\n", "1 4  " + sum + " text\n", "1  4 " + sum + " text\n", " " + right, "\n" + right, "x" + right,
		"0 4 " + sum + " text\n", "2 4 " + sum + " text\n", "1 3 " + sum + " text\n", "1 5 " + sum + " text\n", "1 4 " + sum[:15] + " text\n", "1 4 " + sum + "0 text\n", "1 4 " + strings.ToUpper(sum) + " text\n", "1 4 " + sum[1:] + "0 text\n", "1 4 0000000000000000 text\n", "1 4  text\n",
		"1 4 " + impl.HashSum("1 4 text") + " text\n", "1 4 " + impl.HashSum("1 4 text")[16:32] + " text\n", "1 4 " + impl.HashSum("1 4 text\n")[:16] + " text\n", "1 4 " + impl.HashSum("text")[:16] + " text\n", "1\t4 " + sum + " text\n", "1 4\n" + sum + " text\n",
	}
	// Numbers that are not right, but whose sum is theirs, or that of the right ones.
	for _, num := range []string{"", "0", "2", "01", "+1", "-1", " 1", "1 ", "1.", "000001", "0000001", "1e0", "0x1", "10", "11", "100000", "999999", "1000000", "1000001", "18446744073709551617", "\xd9\xa1"} {
		lines = append(lines, lineFrom(num, "4", "text"), num+" 4 "+sum+" text\n")
	}
	for _, length := range []string{"", "0", "3", "5", "04", "+4", "-4", " 4", "4 ", "000004", "0000004", "4.", "0x4", "40", "100000", "999999", "1000000", "1000004", "18446744073709551620", "\xd9\xa4"} {
		lines = append(lines, lineFrom("1", length, "text"), "1 "+length+" "+sum+" text\n")
	}
	return append(lines, strings.Repeat("1", 100000), strings.Repeat(" ", 100000), strings.Repeat("\n", 100000), lineFrom("1", "4", "text")[1:])
}

func TestP27TextsThatAreNearlyLogs(t *testing.T) {
	first := lineOf(0, "first")
	checkLog(t, first+lineOf(1, "text"))
	if records, _ := impl.LogRead(first + lineOf(1, "text")); len(records) != 2 {
		t.Fatalf("LogRead of a right line is %q", records)
	}
	for _, line := range wrongLines() {
		for _, behind := range []string{"", lineOf(1, "text"), lineOf(2, "text")} {
			log := first + line + behind
			if line == "" && behind == lineOf(1, "text") {
				continue
			}
			checkLog(t, log)
			records, bytes := impl.LogRead(log)
			if !slices.Equal(records, []string{"first"}) || bytes != len(first) || impl.LogMend(log) != first || impl.LogOk(log) != (log == first) {
				t.Fatalf("LogRead of %q is %q %d", log, records, bytes)
			}
			if log == first {
				continue
			}
			if added, ok := impl.LogAdd(log, "x"); ok || added != "" {
				t.Fatalf("LogAdd to %q is %q %#v", log, added, ok)
			}
			for _, bytes := range []int{-1, 0, 3, 100} {
				if got := impl.LogTorn(log, "x", bytes); got != log {
					t.Fatalf("LogTorn of %q is %q", log, got)
				}
			}
		}
	}
}

// A log that does not begin with the place 0 is none.
func TestP27ALogBeginsAtNought(t *testing.T) {
	log := logOf([]string{"a", "b", "c"})
	for _, text := range []string{log[len(lineOf(0, "a")):], lineOf(1, "a"), lineOf(0, "a")[1:], "\n" + log, " " + log} {
		if records, bytes := impl.LogRead(text); len(records) != 0 || bytes != 0 || impl.LogMend(text) != "" || impl.LogOk(text) {
			t.Errorf("LogRead of %q is %q %d", text, records, bytes)
		}
	}
}

// Logs of which bytes are others, gone, or more, or lines of which changed places.
func TestP27SpoiltLogs(t *testing.T) {
	r := newSource(82)
	for range 2500 {
		records := someRecords(r)
		log := []byte(logOf(records))
		for range 1 + r.Intn(2) {
			if len(log) == 0 {
				break
			}
			at := r.Intn(len(log))
			switch r.Intn(4) {
			case 0:
				log[at] ^= byte(1 + r.Intn(255))
			case 1:
				log = slices.Delete(log, at, at+1)
			case 2:
				log = slices.Insert(log, at, "0 \nx"[r.Intn(4)])
			default:
				log = log[:at]
			}
		}
		checkLog(t, string(log))
	}
}

// Each byte of a short log is turned: what is ahead of its record stays, and the rest is not read.
func TestP27EachByteTurned(t *testing.T) {
	records := []string{"0 a:text", "b\nc", lineOf(2, "d")}
	log := logOf(records)
	ends := []int{len(lineOf(0, records[0])), len(lineOf(0, records[0]) + lineOf(1, records[1])), len(log)}
	for at := range len(log) {
		whole := 0
		for ends[whole] <= at {
			whole++
		}
		for _, turn := range []byte{1, 2, 4, 16, 32, 128, 255} {
			spoilt := []byte(log)
			spoilt[at] ^= turn
			got, bytes := impl.LogRead(string(spoilt))
			if !slices.Equal(got, records[:whole]) || bytes != append([]int{0}, ends...)[whole] {
				t.Fatalf("LogRead of %q is %q %d", spoilt, got, bytes)
			}
		}
	}
}

func TestP28ARecordThatWasTorn(t *testing.T) {
	r := newSource(83)
	logs := [][]string{nil, {"a"}, {"0 a:text", "0 a:"}, {"\n", "\n"}, {lineOf(0, "x")}, someRecords(r), someRecords(r)}
	for _, records := range logs {
		for _, record := range append(trickyRecords(), someRecord(r)) {
			checkTorn(t, records, record)
		}
	}
}

// checkTorn tears a record at each of its bytes.
func checkTorn(t *testing.T, records []string, record string) {
	t.Helper()
	log := logOf(records)
	line := lineOf(len(records), record)
	all := append(slices.Clone(records), record)
	for bytes := -2; bytes <= len(line)+2; bytes++ {
		came := min(max(bytes, 0), len(line))
		torn := impl.LogTorn(log, record, bytes)
		if torn != log+line[:came] {
			t.Fatalf("LogTorn of %q, %q and %d is %q", log, record, bytes, torn)
		}
		want, mended := records, log
		if came == len(line) {
			want, mended = all, log+line
		}
		got, read := impl.LogRead(torn)
		if !slices.Equal(got, want) || read != len(mended) || impl.LogMend(torn) != mended || impl.LogOk(torn) != (torn == mended) {
			t.Fatalf("LogRead of %q is %q %d", torn, got, read)
		}
		if torn != mended {
			if added, ok := impl.LogAdd(torn, "x"); ok || added != "" {
				t.Fatalf("LogAdd to %q is %q %#v", torn, added, ok)
			}
		}
	}
	for _, bytes := range []int{tooSmall, tooSmall + 1} {
		if got := impl.LogTorn(log, record, bytes); got != log {
			t.Fatalf("LogTorn of %d bytes is %q", bytes, got)
		}
	}
	for _, bytes := range []int{tooBig, tooBig - 1} {
		if got := impl.LogTorn(log, record, bytes); got != log+line {
			t.Fatalf("LogTorn of %d bytes is %q", bytes, got)
		}
	}
}

// A record that was put behind one that was torn, without mending, is none.
func TestP28NothingIsReadBehindWhatIsTorn(t *testing.T) {
	log := logOf([]string{"a", "b"})
	for bytes := 1; bytes < len(lineOf(2, "c")); bytes++ {
		torn := impl.LogTorn(log, "c", bytes)
		for _, behind := range []string{lineOf(2, "c"), lineOf(3, "d"), "x" + lineOf(2, "c"), lineOf(0, "a")} {
			if got, read := impl.LogRead(torn + behind); !slices.Equal(got, []string{"a", "b"}) || read != len(log) {
				t.Fatalf("LogRead of %q is %q %d", torn+behind, got, read)
			}
		}
		if mended := impl.LogMend(torn); mustLog(t, mended, "c") != log+lineOf(2, "c") {
			t.Fatalf("LogAdd to %q", mended)
		}
	}
}

// A number of six figures is read, one of seven is not: the record at the place 1000000 is none.
func TestP27NumbersOfSixAndOfSevenFigures(t *testing.T) {
	var log strings.Builder
	for place := range 1000000 {
		log.WriteString(lineOf(place, "r"))
	}
	whole := log.Len()
	log.WriteString(lineOf(1000000, "r"))
	records, bytes := impl.LogRead(log.String())
	if len(records) != 1000000 || bytes != whole {
		t.Errorf("LogRead reads %d records, %d bytes of %d", len(records), bytes, whole)
	}
}
