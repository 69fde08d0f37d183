package tests

import (
	"fmt"
	"math/rand"
	"strings"
	"testing"

	"loop.example/wellhead/impl"
)

// nameLetters are all that a name may have.
const nameLetters = "abcdefghijklmnopqrstuvwxyz"

// isName says whether a text is as chapter 7 has a name.
func isName(text string) bool {
	return len(text) >= 1 && len(text) <= 6 && strings.Trim(text, nameLetters) == ""
}

// wordHasForm says whether a word is as chapter 7 has it, by a table of what each kind has.
func wordHasForm(w impl.Word) bool {
	table := map[int]struct{ editionLeast, numMost, nameMost, dataMost int }{
		1: {0, 0, 6, 0}, 2: {1, 0, 0, 80}, 3: {1, 99999, 0, 80}, 4: {1, 99999, 0, 0}, 5: {1, 99999, 0, 0}, 6: {0, 0, 0, 0},
	}
	has, there := table[w.Kind]
	if !there || w.Client < 0 || w.Client > 99999 || w.Try < 1 || w.Try > 99999 || w.Edition < has.editionLeast || w.Edition > 99999 {
		return false
	}
	return w.Num >= 0 && w.Num <= has.numMost && (w.Name == "" && has.nameMost == 0 || has.nameMost > 0 && isName(w.Name)) && len(w.Data) <= has.dataMost && (has.dataMost == 0) == (w.Data == "")
}

// someWord draws a word that is ok; its numbers are often at a limit.
func someWord(r *rand.Rand) impl.Word {
	count := func(least int) int {
		return []int{least, impl.CountMax, least + r.Intn(impl.CountMax), least + r.Intn(10)}[r.Intn(4)]
	}
	w := impl.Word{Kind: 1 + r.Intn(6), Client: count(0), Try: count(1), Edition: count(1)}
	if w.Kind == impl.WordOpen || w.Kind == impl.WordGone {
		w.Edition = count(0)
	}
	if w.Kind == impl.WordOpen {
		for range 1 + r.Intn(impl.NameMax) {
			w.Name += string(nameLetters[r.Intn(26)])
		}
	}
	if w.Kind == impl.WordSymbol || w.Kind == impl.WordKnown || w.Kind == impl.WordDone {
		w.Num = count(0)
	}
	if w.Kind == impl.WordAccept || w.Kind == impl.WordSymbol {
		w.Data = someBlock(r, []int{1, impl.DataMax, 1 + r.Intn(impl.DataMax)}[r.Intn(3)])
	}
	return w
}

// edgeWords are ok, each at a limit, or with data that look like something else.
func edgeWords() []impl.Word {
	words := []impl.Word{
		{Kind: 1, Try: 1, Name: "a"}, {Kind: 1, Client: 99999, Try: 99999, Edition: 99999, Name: "zzzzzz"}, {Kind: 1, Client: 1, Try: 2, Edition: 1, Name: "abcdef"},
		{Kind: 2, Try: 1, Edition: 1, Data: "60/8:2,8:2,3"}, {Kind: 2, Client: 99999, Try: 99999, Edition: 99999, Data: noughts(80)},
		{Kind: 3, Try: 1, Edition: 1, Data: "x"}, {Kind: 3, Client: 99999, Try: 99999, Edition: 99999, Num: 99999, Data: strings.Repeat("\xff", 80)},
		{Kind: 4, Try: 1, Edition: 1}, {Kind: 4, Client: 99999, Try: 99999, Edition: 99999, Num: 99999}, {Kind: 5, Try: 1, Edition: 1}, {Kind: 5, Client: 99999, Try: 99999, Edition: 99999, Num: 99999},
		{Kind: 6, Try: 1}, {Kind: 6, Client: 99999, Try: 99999, Edition: 99999},
	}
	for _, data := range []string{":", "::", " ", "\n", "\x00", "a:b", "3 0 1 1 0 :x", "06355571 1 2 0 0 a:", "-1", "\xff\xfe", "caf\xc3\xa9"} {
		words = append(words, impl.Word{Kind: 3, Client: 2, Try: 3, Edition: 4, Num: 5, Data: data}, impl.Word{Kind: 2, Client: 2, Try: 3, Edition: 4, Data: data})
	}
	return words
}

// withSum is a word's text with the sum ahead that it should have.
func withSum(text string) string {
	return fmt.Sprintf("%07d", sumOf(text)) + text
}

// sumOf is the sum of a text.
func sumOf(text string) int {
	n := 1
	for _, b := range []byte(text) {
		n = n*31 + int(b) + 7
		n %= 1000003
	}
	return n
}

// bodyOf is a word's text without its sum, whether the word is ok or not.
func bodyOf(w impl.Word) string {
	return fmt.Sprintf("%d %d %d %d %d %s:%s", w.Kind, w.Client, w.Try, w.Edition, w.Num, w.Name, w.Data)
}

func TestP25ANameIsOneToSixLetters(t *testing.T) {
	for _, text := range []string{"a", "z", "ab", "abc", "abcd", "abcde", "abcdef", "uvwxyz", "zzzzzz", "aaaaaa"} {
		if !impl.NameOk(text) {
			t.Errorf("NameOk of %q is false", text)
		}
		for _, letter := range text {
			if !impl.NameOk(string(letter)) {
				t.Errorf("NameOk of %q is false", letter)
			}
		}
	}
	for _, text := range []string{"", "abcdefg", "aaaaaaaa", "A", "aB", "a1", "1", "a ", " a", "a b", "a:", "a\n", "\x00", "a\x00", "`", "{", "a{", "`a", "\xc3\xa4", "a\xc3\xa4", "\xff", "_", "-", strings.Repeat("a", 100000)} {
		if impl.NameOk(text) {
			t.Errorf("NameOk of %q", text)
		}
	}
	for b := range 256 {
		letter := b >= 'a' && b <= 'z'
		for _, text := range []string{string([]byte{byte(b)}), string([]byte{'a', byte(b)}), string([]byte{byte(b), 'a'}), string([]byte{'a', 'b', 'c', 'd', 'e', byte(b)})} {
			if impl.NameOk(text) != letter {
				t.Errorf("NameOk of %q is not %#v", text, letter)
			}
		}
	}
}

// WordOk, WordWrite and WordRead are tried on all words of numbers and texts at the limits.
func TestP23AllWordsAtTheLimits(t *testing.T) {
	counts := []int{-1, 0, 1, impl.CountMax, impl.CountMax + 1}
	for kind := -1; kind <= 8; kind++ {
		for _, client := range counts {
			for _, try := range counts {
				for _, edition := range counts {
					for _, num := range counts {
						for _, name := range []string{"", "a", "abcdef", "abcdefg", "A"} {
							for _, data := range []string{"", "x", noughts(80), noughts(81)} {
								checkWord(t, impl.Word{Kind: kind, Client: client, Try: try, Edition: edition, Num: num, Name: name, Data: data})
							}
						}
					}
				}
			}
		}
	}
}

// checkWord holds a word against its form, and what is written of it.
func checkWord(t *testing.T, w impl.Word) {
	t.Helper()
	ok, text := impl.WordOk(w), impl.WordWrite(w)
	if ok != wordHasForm(w) {
		t.Fatalf("WordOk of %#v is %#v", w, ok)
	}
	if !ok {
		if text != "" {
			t.Fatalf("WordWrite of %#v is %q", w, text)
		}
		if got, read := impl.WordRead(withSum(bodyOf(w))); read || got != (impl.Word{}) {
			t.Fatalf("WordRead of %q is %#v %#v", withSum(bodyOf(w)), got, read)
		}
		return
	}
	if text != withSum(bodyOf(w)) {
		t.Fatalf("WordWrite of %#v is %q, not %q", w, text, withSum(bodyOf(w)))
	}
	if got, read := impl.WordRead(text); !read || got != w {
		t.Fatalf("WordRead of %q is %#v %#v", text, got, read)
	}
}

func TestP23AWordCanBeWrittenAndReadAgain(t *testing.T) {
	for _, w := range edgeWords() {
		if !impl.WordOk(w) {
			t.Errorf("WordOk of %#v is false", w)
		}
		checkWord(t, w)
	}
	r := newSource(71)
	for range 5000 {
		w := someWord(r)
		if !impl.WordOk(w) {
			t.Fatalf("WordOk of %#v is false", w)
		}
		checkWord(t, w)
	}
	if got := impl.WordWrite(impl.Word{Kind: impl.WordOpen, Client: 1, Try: 2, Name: "a"}); got != "06355571 1 2 0 0 a:" {
		t.Errorf("WordWrite is %q", got)
	}
}

// Words that are not ok, each in one way, far outside the limits.
func TestP23WordsThatAreNotOk(t *testing.T) {
	for _, w := range edgeWords() {
		for _, n := range []int{tooBig, tooSmall, -2, impl.CountMax + 2, 1000000} {
			for _, change := range []func(*impl.Word){
				func(w *impl.Word) { w.Kind = n }, func(w *impl.Word) { w.Client = n }, func(w *impl.Word) { w.Try = n }, func(w *impl.Word) { w.Edition = n }, func(w *impl.Word) { w.Num = n },
			} {
				other := w
				change(&other)
				if wordHasForm(other) {
					t.Fatalf("%#v is ok", other)
				}
				checkWord(t, other)
			}
		}
		other := w
		other.Data = strings.Repeat("x", 100000)
		checkWord(t, other)
		other = w
		other.Name = "abcdefg"
		checkWord(t, other)
	}
	checkWord(t, impl.Word{})
}

// Sums of one figure to seven are all written in seven.
func TestP23SumsOfAllLengths(t *testing.T) {
	seen := map[int]bool{}
	for client := 0; client <= impl.CountMax && len(seen) < 7; client++ {
		for try := 1; try <= 20; try++ {
			w := impl.Word{Kind: impl.WordGone, Client: client, Try: try}
			figures := len(fmt.Sprint(sumOf(bodyOf(w))))
			if !seen[figures] {
				seen[figures] = true
				checkWord(t, w)
			}
		}
	}
	if len(seen) != 7 {
		t.Errorf("sums of %v figures", seen)
	}
}

// Texts whose sum is right, but that are not just as a word is written.
func TestP23TextsThatAreNearlyWords(t *testing.T) {
	for _, body := range []string{
		"", ":", " ", "1", "1 ", "1 1", "1 1 2 0 0", "1 1 2 0 0 ", "1 1 2 0 0 a", "1 1 2 0 0 :", "1 1 2 0 a:", "1 1 2 a:", "1 1 2 0 0 0 a:", "1 1 2 0 0:a:", "1 1 2 0 0 a:x", "1 1 2 0 0 a::", "1 1 2 0 0 a:\n", "1 1 2 0 0 a: ", "1 1 2 0 0 a:\x00",
		"01 1 2 0 0 a:", "1 01 2 0 0 a:", "1 1 02 0 0 a:", "1 1 2 00 0 a:", "1 1 2 0 00 a:", "1 1 2 000000 0 a:", "1 1 2 0000000 0 a:", "1 000001 2 0 0 a:", "1 0000001 2 0 0 a:",
		"+1 1 2 0 0 a:", "1 +1 2 0 0 a:", "1 1 +2 0 0 a:", "1 1 2 +0 0 a:", "1 1 2 0 +0 a:", "1 1 2 -0 0 a:", "1 1 2 0 -0 a:", "1 -1 2 0 0 a:", "-1 1 2 0 0 a:", "1 1 -2 0 0 a:",
		" 1 1 2 0 0 a:", "1  1 2 0 0 a:", "1 1  2 0 0 a:", "1 1 2  0 0 a:", "1 1 2 0  0 a:", "1 1 2 0 0  a:", "1 1 2 0 0 a :", "1\t1 2 0 0 a:", "1\n1 2 0 0 a:", "1 1 2 0 0\ta:", "1,1,2,0,0,a:", "1 1 2 0 0 a;", "1 1 2 0 0 a\x00:",
		"1 1 2 0 0 A:", "1 1 2 0 0 abcdefg:", "1 1 2 0 0 a1:", "1 1 2 0 0 \xc3\xa4:", "1 1 2 0 1 a:", "1 1 0 0 0 a:", "0 1 2 0 0 a:", "7 1 2 0 0 :", "7 1 2 0 0 a:", "2 1 2 0 0 :x", "2 1 2 1 0 :", "2 1 2 1 1 :x", "2 1 2 1 0 a:x",
		"3 1 2 0 0 :x", "3 1 2 1 0 :", "3 1 2 1 0 a:x", "4 1 2 0 0 :", "4 1 2 1 0 :x", "4 1 2 1 0 a:", "5 1 2 0 0 :", "5 1 2 1 0 :x", "5 1 2 1 0 a:", "6 1 2 0 1 :", "6 1 2 1 0 :x", "6 1 2 1 0 a:",
		"1 100000 2 0 0 a:", "1 999999 2 0 0 a:", "1 1000000 2 0 0 a:", "1 1 100000 0 0 a:", "1 1 1000000 0 0 a:", "1 1 2 100000 0 a:", "1 1 2 1000000 0 a:", "3 1 2 1 100000 :x", "3 1 2 1 1000000 :x", "100000 1 2 0 0 a:", "1000000 1 2 0 0 a:",
		"1 18446744073709551617 2 0 0 a:", "1 1 18446744073709551618 0 0 a:", "1 1 1_0 0 0 a:", "1 0x1 2 0 0 a:", "1 1 2 1e1 0 a:", "1 1 \xd9\xa2 0 0 a:", "one 1 2 0 0 a:",
	} {
		if got, ok := impl.WordRead(withSum(body)); ok || got != (impl.Word{}) {
			t.Errorf("WordRead of %q is %#v %#v", withSum(body), got, ok)
		}
	}
}

// Sums that are not just the one in seven figures.
func TestP23WrongSums(t *testing.T) {
	body := "1 1 2 0 0 a:"
	for _, sum := range []string{"", "0", "635557", "00635557", "0635556", "0635558", "1635560", "+635557", "-635557", " 635557", "0635557 ", "635557 ", "6355570", "0000000", "\x00635557", "063555\x37\x00", "o635557", "0x635557"} {
		if got, ok := impl.WordRead(sum + body); ok || got != (impl.Word{}) {
			t.Errorf("WordRead of %q is %#v %#v", sum+body, got, ok)
		}
	}
	if _, ok := impl.WordRead("0635557" + body); !ok {
		t.Error("WordRead of the right sum is false")
	}
}

// The longest word, and texts of DataMax and 80 bytes and of one more, their sums being right.
func TestP23TheLongestTexts(t *testing.T) {
	longest := impl.Word{Kind: impl.WordSymbol, Client: 99999, Try: 99999, Edition: 99999, Num: 99999, Data: strings.Repeat("~", 80)}
	if text := impl.WordWrite(longest); len(text) != 114 {
		t.Errorf("WordWrite of the longest word has %d bytes", len(text))
	}
	head := "3 99999 99999 99999 99999 :"
	for _, size := range []int{115, 159, impl.DataMax + 80, impl.DataMax + 81, 1000, 100000} {
		text := withSum(head + strings.Repeat("~", size-7-len(head)))
		if len(text) != size {
			t.Fatal(len(text))
		}
		if got, ok := impl.WordRead(text); ok || got != (impl.Word{}) {
			t.Errorf("WordRead of %d bytes is %#v %#v", size, got, ok)
		}
	}
	for _, text := range []string{"", "0", "0000001", "0000001:", strings.Repeat("0", 160), strings.Repeat(" ", 161)} {
		if got, ok := impl.WordRead(text); ok || got != (impl.Word{}) {
			t.Errorf("WordRead of %q is %#v %#v", text, got, ok)
		}
	}
}

func TestP24AWordOfWhichOneByteIsAnotherOne(t *testing.T) {
	r := newSource(72)
	words := edgeWords()
	for range 30 {
		words = append(words, someWord(r))
	}
	for _, w := range words {
		text := impl.WordWrite(w)
		for at := range len(text) {
			for turn := 1; turn < 256; turn++ {
				spoilt := []byte(text)
				spoilt[at] ^= byte(turn)
				if got, ok := impl.WordRead(string(spoilt)); ok || got != (impl.Word{}) {
					t.Fatalf("WordRead of %q, which was %q, is %#v %#v", spoilt, text, got, ok)
				}
			}
		}
	}
}

// A byte gone, a byte more, or two that changed places: if something is read, it is just what is written.
func TestP24WordsSpoiltInOtherWays(t *testing.T) {
	check := func(text string) {
		t.Helper()
		if got, ok := impl.WordRead(text); ok && impl.WordWrite(got) != text || !ok && got != (impl.Word{}) {
			t.Fatalf("WordRead of %q is %#v %#v", text, got, ok)
		}
	}
	r := newSource(73)
	for range 100 {
		text := impl.WordWrite(someWord(r))
		for at := range len(text) + 1 {
			check(text[:at])
			check(text[at:])
			check(text[:at] + "0" + text[at:])
			check(text[:at] + " " + text[at:])
			check(text[:at] + ":" + text[at:])
			if at < len(text) {
				check(text[:at] + text[at+1:])
			}
			if at+1 < len(text) {
				check(text[:at] + text[at+1:at+2] + text[at:at+1] + text[at+2:])
			}
		}
		for _, short := range []string{text[:len(text)-1], text[1:], text + "x", "x" + text, text + "\n"} {
			if got, ok := impl.WordRead(short); ok || got != (impl.Word{}) {
				t.Fatalf("WordRead of %q is %#v %#v", short, got, ok)
			}
		}
	}
}
