package tests

import (
	"fmt"
	"math/rand"
	"slices"
	"strings"
	"testing"

	"loop.example/wellhead/impl"
)

// sessionAnswers are the answers to lines alone, without the board.
func sessionAnswers(t *testing.T, lines ...string) []string {
	t.Helper()
	answer := checkSession(t, lines)
	return strings.SplitN(answer, "\n", len(lines)+1)[:len(lines)]
}

// Each kind of line, at a time when it can be, and at one when it cannot.
func TestP73EachKindOfLine(t *testing.T) {
	cases := []struct{ line, want string }{
		{"text 0", "knows "}, {"calm 0", "still"}, {"serve", "ok"}, {"rise", "no"}, {"bring 0", "no"}, {"double 0", "no"}, {"lose 0", "no"}, {"spoil 0 0", "no"}, {"again 0", "no"}, {"stop 0", "no"}, {"tick 0", "no"}, {"take 0 a", "no"},
		{"put 0 a theredfoxjumpsoverit", "ok"}, {"put 0 a other", "no"}, {"put 1 a a:b\nc", "ok"}, {"take 1 a", "ok"}, {"take 1 a", "no"}, {"open 0 a", "ok"}, {"calm 0", "not still"}, {"tick 0", "ok"}, {"double 0", "ok"}, {"lose 1", "ok"}, {"bring 0", "ok"}, {"bring 0", "ok"},
		{"serve", "ok"}, {"bring 1", "ok"}, {"text 0", "knows theredfo"}, {"spoil 0 9", "ok"}, {"spoil 0 9", "no"}, {"bring 0", "ok"}, {"again 0", "ok"}, {"stop 0", "ok"}, {"text 0", "knows "}, {"stop 0", "no"},
		{"fall", "ok"}, {"fall", "no"}, {"serve", "no"}, {"put 0 b x", "no"}, {"rise", "ok"}, {"rise", "no"}, {"open 2 a", "ok"}, {"calm 10", "still"}, {"text 2", "knows theredfoxjumpsoverit"}, {"what", "what"}, {"open 2 a", "ok"}, {"fall", "ok"}, {"calm 1", "still"}, {"text 2", "knows theredfoxjumpsoverit"},
	}
	var lines, want []string
	for _, c := range cases {
		lines, want = append(lines, c.line), append(want, c.want)
	}
	if got := sessionAnswers(t, lines...); !slices.Equal(got, want) {
		t.Errorf("the answers are %q", got)
	}
}

// whatLines say nothing, each nearly something.
func whatLines() []string {
	lines := []string{
		"", " ", "  ", "what", "Serve", "SERVE", "serves", "serv", "serve\n", "\tserve", "serve\t", "serve 0", "rise 0", "fall 0", "fall 0 a x 9", "calm", "text", "put", "take", "open", "again", "stop", "tick", "bring", "double", "lose", "spoil",
		"put 0", "put 0 a", "put 0 a x y", "put a 0 x", "put x a x", "take 0", "take 0 a x", "open 0", "open 0 a x", "again 0 0", "stop 0 0", "tick 0 0", "bring 0 0", "double 0 0", "lose 0 0", "spoil 0", "spoil 0 0 0", "calm 0 0", "text 0 0", "calm x", "text x", "calm -1", "text -1",
		"calm 11", "calm 12", "calm 99", "calm 100000", "calm 1000000", "text 4", "text 9", "text 999999", "text 1000000", "spoil x 0", "spoil 0 x", "spoil 0 -1", "spoil -1 0", "WorldPut 0 a x", "1 0 a x", "6", "put\t0\ta\tx", "put 0x0 a x", "put 1e0 a x", "put +1 a x", "bring +0", "bring 0\n", "text 0\x00", "put 0 a\x00 x y",
	}
	for _, line := range []string{"put 0 a x", "take 0 a", "open 0 a", "again 0", "stop 0", "serve", "tick 0", "bring 0", "double 0", "lose 0", "spoil 0 0", "fall", "rise", "calm 1", "text 0"} {
		// A blank at an end, or two together.
		lines = append(lines, " "+line, line+" ", line+"  ", strings.Replace(line, " ", "  ", 1)+" ")
		for _, number := range []string{"00", "01", "007", "0000000", "1000000", "-1", "-0", "+0", "", "0.", "0x", "a", "１"} {
			if strings.Contains(line, " 0") {
				lines = append(lines, strings.Replace(line, " 0", " "+number, 1))
			}
		}
	}
	return lines
}

func TestP73AnyOtherLine(t *testing.T) {
	lines := whatLines()
	for len(lines) > 0 {
		some := lines[:min(100, len(lines))]
		lines = lines[len(some):]
		for i, answer := range idleAnswers(t, some) {
			if answer != "what" {
				t.Errorf("%q is answered by %q", some[i], answer)
			}
		}
	}
}

// idleAnswers are the answers to lines that do nothing.
func idleAnswers(t *testing.T, lines []string) []string {
	t.Helper()
	answer := checkSession(t, lines)
	if !strings.HasSuffix(answer, impl.WorldBoard(impl.WorldNew())) {
		t.Errorf("these lines do something: %q", answer)
	}
	return strings.Split(answer, "\n")[:len(lines)]
}

// A line is cut at each blank: a name or a text may so be empty, and it is one that cannot be.
func TestP73EmptyWords(t *testing.T) {
	lines := []string{"put 0 a ", "put 0  x", "put 0  ", "take 0 ", "open 0 ", "put  0 a", "put  a x", "again ", "stop ", "tick ", "bring ", "double ", "lose ", "spoil 0 ", "spoil  0", "spoil  ", "calm ", "text ", "put 0 a  x", "put 0 a x ", "take  0 a", "open  0 a", "serve ", " serve", "fall ", "rise "}
	want := []string{"no", "no", "no", "no", "no", "what", "what", "what", "what", "what", "what", "what", "what", "what", "what", "what", "what", "what", "what", "what", "what", "what", "what", "what", "what", "what"}
	if got := sessionAnswers(t, lines...); !slices.Equal(got, want) {
		t.Errorf("the answers are %q", got)
	}
}

func TestP73NumbersOfLines(t *testing.T) {
	lines := []string{"put 2 a x", "put 999999 a x", "open 4 a", "open 999999 a", "bring 999999", "bring 1", "spoil 0 999999", "open 0 a", "spoil 0 999999", "spoil 1 0", "lose 1", "double 60", "tick 9", "again 100000", "stop 123456"}
	want := []string{"no", "no", "no", "no", "no", "no", "no", "ok", "ok", "no", "no", "no", "no", "no", "no"}
	if got := sessionAnswers(t, lines...); !slices.Equal(got, want) {
		t.Errorf("the answers are %q", got)
	}
}

func TestP73AHundredLines(t *testing.T) {
	for _, count := range []int{0, 1, 2, 99, 100, 101, 102, 300} {
		lines := slices.Repeat([]string{"open 1 a"}, count)
		answer := checkSession(t, lines)
		if done := strings.Count(answer, "ok\n"); done != min(count, 100) {
			t.Errorf("of %d lines %d are done", count, done)
		}
		if !strings.Contains(answer, fmt.Sprintf("client 1 %s, try %d\n", []string{"idle", "asks"}[min(count, 1)], min(count, 100))) || !strings.HasSuffix(answer, fmt.Sprintf("\n%d under way\n", min(count, 60))) {
			t.Errorf("behind %d lines it is %q", count, answer)
		}
	}
	lines := append(slices.Repeat([]string{"serve"}, 100), "put 0 a x", "calm 7", "text 0")
	if answer := checkSession(t, lines); strings.Contains(answer, "knows") || strings.Contains(answer, "still") || !strings.Contains(answer, "server up, 0 things of 0, 0 told\n") {
		t.Errorf("what is behind a hundred lines is not done: %q", answer)
	}
	if answer := impl.WorldSession(nil); answer != impl.WorldBoard(impl.WorldNew()) {
		t.Errorf("without lines there is the board: %q", answer)
	}
}

// someLine draws a line, seldom one that says nothing.
func someLine(r *rand.Rand) string {
	e := someEvent(r, storms()[r.Intn(len(storms()))])
	switch e.Kind {
	case impl.WorldPut:
		return fmt.Sprintf("put %d %s %s", e.At, e.Name, strings.ReplaceAll(e.Text, " ", "_"))
	case impl.WorldTake:
		return fmt.Sprintf("take %d %s", e.At, e.Name)
	case impl.WorldOpen:
		return fmt.Sprintf("open %d %s", e.At, e.Name)
	case impl.WorldAgain, impl.WorldStop, impl.WorldTick:
		return fmt.Sprintf("%s %d", map[int]string{4: "again", 5: "stop", 7: "tick"}[e.Kind], e.At)
	case impl.WorldBring:
		return fmt.Sprintf("%s %d", map[bool]string{true: "double", false: "bring"}[e.Keep], e.At)
	case impl.WorldLose:
		return fmt.Sprintf("lose %d", e.At)
	case impl.WorldSpoil:
		return fmt.Sprintf("spoil %d %d", e.At, e.Num)
	case impl.WorldFall:
		return "fall"
	case impl.WorldRise:
		return "rise"
	}
	return []string{"serve", "serve", "serve", "serve", "calm 1", "calm 0", fmt.Sprint("text ", r.Intn(5)), "text 0 0", "serve "}[r.Intn(9)]
}

func TestP73ASessionTellsJustWhatItsLinesDo(t *testing.T) {
	for seed := range 150 {
		r := newSource(int64(7300 + seed))
		var lines []string
		for range r.Intn(120) {
			lines = append(lines, someLine(r))
		}
		answer := checkSession(t, lines)
		// Texts here have newlines, so answers are counted where none is told.
		if !slices.ContainsFunc(lines, func(line string) bool { return strings.HasPrefix(line, "text") }) && strings.Count(answer, "\n") < min(len(lines), 100)+6 {
			t.Fatalf("seed %d: a line has no answer: %q", seed, answer)
		}
	}
}

func TestP73TheExampleOfTheDocument(t *testing.T) {
	lines := strings.Split("put 0 a theredfoxjumpsoverit|open 0 a|bring 0|bring 0|serve|bring 0|bring 0|text 0|serve|lose 0|serve|bring 0|serve|spoil 0 70|bring 0|serve|bring 0|text 0|open 1 a|bring 0|bring 0|put 1 a another|put 0 a x|open 2 a|double 0|take 0 a|fall|serve|calm 7|text 2|again 0|open 3 a|calm 7|text 3|what", "|")
	want := "ok|ok|ok|ok|ok|ok|ok|knows theredfo|ok|ok|ok|ok|ok|ok|ok|ok|ok|knows theredfo|ok|ok|ok|ok|no|ok|ok|ok|ok|no|still|knows |ok|ok|still|knows another|what|" +
		"server up, 1 things of 2, 0 told|  house 1 a edition 2, 7 bytes|client 0 lost, try 2, a edition 1, knows 8 of 20|client 1 lost, try 1|client 2 lost, try 1, a edition 1, knows 0 of 20|client 3 full, try 1, a edition 2, knows 7 of 7|0 under way|"
	if got := checkSession(t, lines); got != strings.ReplaceAll(want, "|", "\n") {
		t.Errorf("it is %q", got)
	}
}
