package tests

import (
	"fmt"
	"math/rand"
	"slices"
	"sort"
	"strings"
	"testing"

	"loop.example/wellhead/impl"
)

// sameCat compares catalogues; the empty and the nil list are the same.
func sameCat(a impl.Cat, b impl.Cat) bool {
	return a.Last == b.Last && slices.Equal(a.Items, b.Items)
}

// copyCat is a catalogue in memory of its own.
func copyCat(c impl.Cat) impl.Cat {
	return impl.Cat{Last: c.Last, Items: slices.Clone(c.Items)}
}

// mayBe says whether a thing may be given out, as chapter 9 has it.
func mayBe(house int, name string, text string) bool {
	return (house == 0 || house == 1) && isName(name) && len(text) > 0 && len(text) < 301
}

// bytesOf is how many bytes of text a house has.
func bytesOf(c impl.Cat, house int) int {
	texts := ""
	for _, item := range c.Items {
		if item.House == house {
			texts += item.Text
		}
	}
	return len(texts)
}

// placeOf is where a thing stands; -1, if it is not there.
func placeOf(c impl.Cat, house int, name string) int {
	return slices.IndexFunc(c.Items, func(item impl.Item) bool { return item.House == house && item.Name == name })
}

// orderOf is a text by which things are in order.
func orderOf(item impl.Item) string {
	return fmt.Sprintf("%d %s", item.House, item.Name)
}

// catHasForm says whether a catalogue is as chapter 9 has it.
func catHasForm(c impl.Cat) bool {
	if c.Last < 0 || c.Last > 99999 || len(c.Items) > 8 {
		return false
	}
	for i, item := range c.Items {
		if !mayBe(item.House, item.Name, item.Text) || item.Edition < 1 || item.Edition > c.Last || bytesOf(c, item.House) > 500 {
			return false
		}
		for _, ahead := range c.Items[:i] {
			if ahead.Edition == item.Edition || orderOf(ahead) >= orderOf(item) {
				return false
			}
		}
	}
	return true
}

// wantPut is what CatPut has to answer.
func wantPut(c impl.Cat, house int, name string, text string) (impl.Cat, int) {
	if !catHasForm(c) {
		return impl.Cat{}, 1
	}
	if !mayBe(house, name, text) {
		return c, 1
	}
	if placeOf(c, house, name) >= 0 {
		return c, 2
	}
	if len(c.Items) >= 8 || c.Last >= 99999 || bytesOf(c, house)+len(text) > 500 {
		return c, 4
	}
	c = copyCat(c)
	c.Last++
	c.Items = append(c.Items, impl.Item{House: house, Name: name, Edition: c.Last, Text: text})
	sort.Slice(c.Items, func(i int, j int) bool { return orderOf(c.Items[i]) < orderOf(c.Items[j]) })
	return c, 0
}

// wantTake is what CatTake has to answer.
func wantTake(c impl.Cat, house int, name string) (impl.Cat, int) {
	if !catHasForm(c) {
		return impl.Cat{}, 1
	}
	place := placeOf(c, house, name)
	if place < 0 {
		return c, 3
	}
	c = copyCat(c)
	c.Items = append(c.Items[:place], c.Items[place+1:]...)
	return c, 0
}

// catNames are few, so that they come again, and some are the beginning of others.
func catNames() []string {
	return []string{"a", "aa", "ab", "abc", "b", "ba", "m", "z", "zzzzzz", "aaaaaa"}
}

// catTexts are long and short, and look like something else.
func catTexts() []string {
	return []string{"x", "thing", ":", " ", "\n", "a:b", "0 a:x", "\x00", "\xff\xfe", "t\n1 b:y\n", strings.Repeat("y", 300), strings.Repeat("y", 299), strings.Repeat("z", 200), strings.Repeat("z", 100)}
}

// oddCalls are houses, names and texts of which at least one may not be.
func oddCalls() []impl.Item {
	var calls []impl.Item
	for _, house := range []int{-1, 2, 3, tooBig, tooSmall} {
		calls = append(calls, impl.Item{House: house, Name: "a", Text: "x"}, impl.Item{House: house, Name: "", Text: ""})
	}
	for _, name := range []string{"", "A", "a1", "a ", " a", "a:", "abcdefg", "a\x00", "a\n", "\xc3\xa9", strings.Repeat("a", 1000)} {
		calls = append(calls, impl.Item{House: 0, Name: name, Text: "x"})
	}
	for _, text := range []string{"", strings.Repeat("x", 301), strings.Repeat("x", 302), strings.Repeat("\n", 600), strings.Repeat("x", 100000)} {
		calls = append(calls, impl.Item{House: 1, Name: "a", Text: text}, impl.Item{House: 1, Name: "q", Text: text})
	}
	return calls
}

// someCat draws a catalogue that is ok; its numbers are often at a limit.
func someCat(r *rand.Rand) impl.Cat {
	var c impl.Cat
	for range r.Intn(9) {
		item := impl.Item{House: r.Intn(2), Name: catNames()[r.Intn(10)]}
		long := min([]int{1, 300, 1 + r.Intn(300), 1 + r.Intn(20)}[r.Intn(4)], 500-bytesOf(c, item.House))
		item.Text = someBlock(r, long)
		if long > 0 && placeOf(c, item.House, item.Name) < 0 {
			c.Items = append(c.Items, item)
		}
	}
	sort.Slice(c.Items, func(i int, j int) bool { return orderOf(c.Items[i]) < orderOf(c.Items[j]) })
	c.Last = []int{len(c.Items), len(c.Items) + r.Intn(5), 99999, 99998}[r.Intn(4)]
	for i, edition := range r.Perm(min(c.Last, 30)) {
		if i < len(c.Items) {
			c.Items[i].Edition = c.Last - edition
		}
	}
	return c
}

// fullCat has CatMax things, of a byte each.
func fullCat() impl.Cat {
	c := impl.Cat{Last: 8}
	for i := range 8 {
		c.Items = append(c.Items, impl.Item{House: i / 4, Name: nameLetters[i : i+1], Edition: 8 - i, Text: "x"})
	}
	return c
}

// twoItems is a catalogue with one thing of each house.
func twoItems() impl.Cat {
	return impl.Cat{Last: 5, Items: []impl.Item{{House: 0, Name: "b", Edition: 5, Text: "thing"}, {House: 1, Name: "a", Edition: 2, Text: "other"}}}
}

// turnedCat is twoItems with one change.
func turnedCat(change func(c *impl.Cat)) impl.Cat {
	c := twoItems()
	change(&c)
	return c
}

// badCats are not ok, each by one thing alone.
func badCats() []impl.Cat {
	cats := []impl.Cat{{Last: -1}, {Last: 100000}, {Last: tooBig}, {Last: tooSmall}}
	for _, last := range []int{-1, 0, 1, 4, 100000, tooBig, tooSmall} {
		cats = append(cats, turnedCat(func(c *impl.Cat) { c.Last = last }))
	}
	for _, edition := range []int{-1, 0, 2, 6, 99999, 100000, tooBig, tooSmall} {
		cats = append(cats, turnedCat(func(c *impl.Cat) { c.Items[0].Edition = edition }))
	}
	for _, item := range oddCalls() {
		cats = append(cats, turnedCat(func(c *impl.Cat) {
			c.Items[1].House, c.Items[1].Name, c.Items[1].Text = item.House, item.Name, item.Text
		}))
	}
	cats = append(cats,
		turnedCat(func(c *impl.Cat) { slices.Reverse(c.Items) }),
		turnedCat(func(c *impl.Cat) { c.Items[0].House = 1 }),
		turnedCat(func(c *impl.Cat) { c.Items[1] = c.Items[0] }),
		turnedCat(func(c *impl.Cat) { c.Items[1].House, c.Items[1].Name = 0, "b" }),
		turnedCat(func(c *impl.Cat) { c.Items[1].House, c.Items[1].Name = 0, "a" }),
		turnedCat(func(c *impl.Cat) { c.Items[0].Name, c.Items[1].House, c.Items[1].Name = "bb", 0, "b" }),
		turnedCat(func(c *impl.Cat) { c.Items[0].House = -1 }),
	)
	over := fullCat()
	over.Last = 9
	over.Items = append(over.Items, impl.Item{House: 1, Name: "z", Edition: 9, Text: "x"})
	many := impl.Cat{Last: 99999}
	for i := range 30 {
		many.Items = append(many.Items, impl.Item{House: 0, Name: "aaa" + string(nameLetters[i/26]) + string(nameLetters[i%26]), Edition: i + 1, Text: "x"})
	}
	return append(cats, over, many, bytesCat(0, 201), bytesCat(1, 201), bytesCat(1, 300))
}

// bytesCat has two things of a house, one of LongMax bytes, and one of so many.
func bytesCat(house int, more int) impl.Cat {
	return impl.Cat{Last: 2, Items: []impl.Item{{House: house, Name: "a", Edition: 1, Text: strings.Repeat("x", 300)}, {House: house, Name: "b", Edition: 2, Text: strings.Repeat("x", more)}}}
}

// edgeCats are ok, each at a limit.
func edgeCats() []impl.Cat {
	most := twoItems()
	most.Last, most.Items[0].Edition, most.Items[1].Edition = 99999, 99999, 1
	nearly := twoItems()
	nearly.Last = 99998
	longest := impl.Cat{Last: 1, Items: []impl.Item{{House: 1, Name: "zzzzzz", Edition: 1, Text: strings.Repeat("\xff", 300)}}}
	seven := fullCat()
	seven.Items = seven.Items[1:]
	both := impl.Cat{Last: 4, Items: append(bytesCat(0, 200).Items, bytesCat(1, 200).Items...)}
	both.Items[2].Edition, both.Items[3].Edition = 3, 4
	return []impl.Cat{{}, {Last: 1}, {Last: 99999}, {Last: 99998}, twoItems(), most, nearly, longest, fullCat(), seven, bytesCat(0, 200), bytesCat(1, 199), both}
}

// checkCat holds all that a catalogue answers against what chapter 9 says; it may be ok or not.
func checkCat(t *testing.T, c impl.Cat) {
	t.Helper()
	ok := catHasForm(c)
	if got := impl.CatOk(c); got != ok {
		t.Fatalf("CatOk of %#v is %#v", c, got)
	}
	for _, house := range []int{-1, 0, 1, 2, tooBig, tooSmall} {
		want := 0
		if ok {
			want = bytesOf(c, house)
		}
		if got := impl.CatBytes(c, house); got != want {
			t.Fatalf("CatBytes of %#v and %d is %d", c, house, got)
		}
		for _, name := range append(catNames(), "", "A", "q", "abcdefg") {
			checkGet(t, c, ok, house, name)
		}
	}
	for _, edition := range []int{-1, 0, 1, 2, 3, 4, 5, 6, 7, 8, 9, c.Last, c.Last - 1, 99999, 100000, tooBig, tooSmall} {
		place := slices.IndexFunc(c.Items, func(item impl.Item) bool { return item.Edition == edition })
		want := impl.Item{}
		if ok && place >= 0 {
			want = c.Items[place]
		}
		if got, there := impl.CatEdition(c, edition); got != want || there != (ok && place >= 0) {
			t.Fatalf("CatEdition of %#v and %d is %#v %#v", c, edition, got, there)
		}
	}
}

// checkGet asks for a thing, and takes it.
func checkGet(t *testing.T, c impl.Cat, ok bool, house int, name string) {
	t.Helper()
	place := placeOf(c, house, name)
	want := impl.Item{}
	if ok && place >= 0 {
		want = c.Items[place]
	}
	if got, there := impl.CatGet(c, house, name); got != want || there != (ok && place >= 0) {
		t.Fatalf("CatGet of %#v, %d %q is %#v %#v", c, house, name, got, there)
	}
	wantCat, wantCode := wantTake(c, house, name)
	if got, code := impl.CatTake(c, house, name); code != wantCode || !sameCat(got, wantCat) {
		t.Fatalf("CatTake of %#v, %d %q is %#v %d", c, house, name, got, code)
	}
}

// checkPut gives a thing out, and is what is there then.
func checkPut(t *testing.T, c impl.Cat, house int, name string, text string) (impl.Cat, int) {
	t.Helper()
	want, wantCode := wantPut(c, house, name, text)
	got, code := impl.CatPut(c, house, name, text)
	if code != wantCode || !sameCat(got, want) {
		t.Fatalf("CatPut of %#v, %d %q %q is %#v %d, not %d", c, house, name, text, got, code, wantCode)
	}
	return got, code
}

// mustPut gives a thing out that has to come.
func mustPut(t *testing.T, c impl.Cat, house int, name string, text string) impl.Cat {
	t.Helper()
	got, code := checkPut(t, c, house, name, text)
	if code != impl.CatDone {
		t.Fatalf("CatPut of %#v, %d %q %q is %d", c, house, name, text, code)
	}
	return got
}

// mustTake takes a thing that has to be there.
func mustTake(t *testing.T, c impl.Cat, house int, name string) impl.Cat {
	t.Helper()
	got, code := impl.CatTake(c, house, name)
	if code != impl.CatDone {
		t.Fatalf("CatTake of %#v, %d %q is %d", c, house, name, code)
	}
	return got
}

func TestCatOk(t *testing.T) {
	for i, c := range edgeCats() {
		if !impl.CatOk(c) {
			t.Errorf("catalogue %d is ok: %#v", i, c)
		}
		checkCat(t, c)
	}
	for i, c := range badCats() {
		if impl.CatOk(c) {
			t.Errorf("catalogue %d is not ok: %#v", i, c)
		}
		checkCat(t, c)
	}
	r := newSource(90)
	for range 300 {
		checkCat(t, someCat(r))
	}
}

// Catalogues of which a thing or two are others, gone, or twice.
func TestCatOkOfSpoiltOnes(t *testing.T) {
	r := newSource(91)
	numbers := []int{-1, 0, 1, 2, 3, 8, 99998, 99999, 100000, tooBig, tooSmall}
	for range 4000 {
		c := someCat(r)
		for range 1 + r.Intn(2) {
			if len(c.Items) == 0 {
				break
			}
			i, j := r.Intn(len(c.Items)), r.Intn(len(c.Items))
			switch r.Intn(8) {
			case 0:
				c.Last = numbers[r.Intn(len(numbers))]
			case 1:
				c.Items[i].Edition = numbers[r.Intn(len(numbers))]
			case 2:
				c.Items[i].Edition = c.Items[j].Edition
			case 3:
				c.Items[i], c.Items[j] = c.Items[j], c.Items[i]
			case 4:
				c.Items[i].House = numbers[r.Intn(4)]
			case 5:
				c.Items[i].Name = append(catNames(), "", "A", "abcdefg")[r.Intn(13)]
			case 6:
				c.Items[i].Text = strings.Repeat("s", []int{0, 1, 299, 300, 301}[r.Intn(5)])
			default:
				c.Items = slices.Delete(c.Items, i, i+1)
			}
		}
		if got := impl.CatOk(c); got != catHasForm(c) {
			t.Fatalf("CatOk of %#v is %#v", c, got)
		}
	}
}

func TestCatsThatAreNotOk(t *testing.T) {
	for _, c := range badCats() {
		for _, call := range append(oddCalls(), impl.Item{House: 0, Name: "b", Text: "x"}, impl.Item{House: 1, Name: "q", Text: "x"}) {
			if got, code := impl.CatPut(c, call.House, call.Name, call.Text); code != impl.CatBad || !sameCat(got, impl.Cat{}) {
				t.Fatalf("CatPut of %#v is %#v %d", c, got, code)
			}
			if got, code := impl.CatTake(c, call.House, call.Name); code != impl.CatBad || !sameCat(got, impl.Cat{}) {
				t.Fatalf("CatTake of %#v is %#v %d", c, got, code)
			}
			if got, ok := impl.CatGet(c, call.House, call.Name); ok || got != (impl.Item{}) {
				t.Fatalf("CatGet of %#v is %#v %#v", c, got, ok)
			}
		}
	}
}

func TestP29WhatIsGivenOutIsThere(t *testing.T) {
	r := newSource(92)
	for range 2000 {
		c := someCat(r)
		house, name, text := r.Intn(2), catNames()[r.Intn(10)], catTexts()[r.Intn(14)]
		next, code := checkPut(t, c, house, name, text)
		if code != impl.CatDone {
			continue
		}
		item, ok := impl.CatGet(next, house, name)
		if !ok || item != (impl.Item{House: house, Name: name, Edition: c.Last + 1, Text: text}) || next.Last != c.Last+1 {
			t.Fatalf("CatGet of %#v is %#v %#v", next, item, ok)
		}
		if byEdition, ok := impl.CatEdition(next, next.Last); !ok || byEdition != item {
			t.Fatalf("CatEdition of %#v is %#v %#v", next, byEdition, ok)
		}
		for _, other := range c.Items {
			if got, ok := impl.CatGet(next, other.House, other.Name); !ok || got != other {
				t.Fatalf("CatPut of %d %q changes %#v to %#v", house, name, other, got)
			}
		}
		if _, code := checkPut(t, next, house, name, text); code != impl.CatThere {
			t.Fatalf("CatPut again is %d", code)
		}
		checkCat(t, next)
	}
}

// Where two codes would do it is the one that is listed first.
func TestP29CodesInTheirOrder(t *testing.T) {
	long, most := strings.Repeat("x", 300), edgeCats()[5]
	cases := []struct {
		what       string
		c          impl.Cat
		house      int
		name, text string
		code       int
	}{
		{"what may not be, and is there", twoItems(), 0, "b", "", impl.CatBad},
		{"too long, and there", twoItems(), 0, "b", long + "x", impl.CatBad},
		{"what may not be, where there are CatMax", fullCat(), 0, "", "x", impl.CatBad},
		{"no house, where there are CatMax", fullCat(), 2, "a", "x", impl.CatBad},
		{"what may not be, where Last is CountMax", most, 0, "c", "", impl.CatBad},
		{"too long, and too many bytes", bytesCat(0, 200), 0, "c", long + "x", impl.CatBad},
		{"there, where there are CatMax", fullCat(), 0, "a", "x", impl.CatThere},
		{"there, where Last is CountMax", most, 0, "b", "x", impl.CatThere},
		{"there, and too many bytes", bytesCat(1, 200), 1, "a", "x", impl.CatThere},
		{"there, of another text", twoItems(), 1, "a", "new", impl.CatThere},
		{"a house's name of another house", twoItems(), 1, "b", "x", impl.CatDone},
		{"CatMax", fullCat(), 1, "q", "x", impl.CatFull},
		{"one less than CatMax", edgeCats()[9], 1, "q", "x", impl.CatDone},
		{"Last is CountMax", most, 0, "c", "x", impl.CatFull},
		{"Last is CountMax, and nothing there", impl.Cat{Last: 99999}, 0, "c", "x", impl.CatFull},
		{"Last is one less", impl.Cat{Last: 99998}, 0, "c", "x", impl.CatDone},
		{"HouseBytes", bytesCat(0, 200), 0, "c", "x", impl.CatFull},
		{"one byte less", bytesCat(0, 199), 0, "c", "x", impl.CatDone},
		{"HouseBytes, passed by one", bytesCat(0, 199), 0, "c", "xx", impl.CatFull},
		{"HouseBytes of the other house", bytesCat(0, 200), 1, "c", long, impl.CatDone},
		{"LongMax", impl.Cat{}, 1, "zzzzzz", long, impl.CatDone},
		{"a byte", impl.Cat{}, 0, "a", "\x00", impl.CatDone},
	}
	for _, c := range cases {
		if _, code := checkPut(t, c.c, c.house, c.name, c.text); code != c.code {
			t.Errorf("%s: %d, not %d", c.what, code, c.code)
		}
	}
	for _, c := range append(edgeCats(), impl.Cat{}) {
		for _, call := range oddCalls() {
			if _, code := checkPut(t, c, call.House, call.Name, call.Text); code != impl.CatBad {
				t.Errorf("CatPut of %d %q %q is %d", call.House, call.Name, call.Text, code)
			}
		}
	}
}

func TestP30WhatIsTakenIsGone(t *testing.T) {
	r := newSource(93)
	for range 1000 {
		c := someCat(r)
		if len(c.Items) == 0 {
			continue
		}
		gone := c.Items[r.Intn(len(c.Items))]
		next := mustTake(t, c, gone.House, gone.Name)
		if item, ok := impl.CatGet(next, gone.House, gone.Name); ok || item != (impl.Item{}) || next.Last != c.Last {
			t.Fatalf("CatGet of %#v is %#v %#v", next, item, ok)
		}
		if item, ok := impl.CatEdition(next, gone.Edition); ok || item != (impl.Item{}) {
			t.Fatalf("CatEdition of %#v is %#v %#v", next, item, ok)
		}
		for _, other := range c.Items {
			if got, ok := impl.CatGet(next, other.House, other.Name); other != gone && (!ok || got != other) {
				t.Fatalf("CatTake of %#v changes %#v to %#v", gone, other, got)
			}
		}
		if again, code := impl.CatTake(next, gone.House, gone.Name); code != impl.CatNone || !sameCat(again, next) {
			t.Fatalf("CatTake again is %#v %d", again, code)
		}
		if again, code := checkPut(t, next, gone.House, gone.Name, gone.Text); code == impl.CatDone {
			if item, _ := impl.CatGet(again, gone.House, gone.Name); item.Edition <= gone.Edition || item.Edition != c.Last+1 {
				t.Fatalf("%#v is given out again as %#v", gone, item)
			}
		}
		checkCat(t, next)
	}
}

// The last edition is taken, and never given again.
func TestP30AnEditionIsNeverGivenAgain(t *testing.T) {
	c := mustPut(t, impl.Cat{}, 0, "b", "other")
	for edition := 2; edition <= 300; edition++ {
		c = mustPut(t, c, edition%2, "a", strings.Repeat("x", edition))
		if item, _ := impl.CatGet(c, edition%2, "a"); item.Edition != edition {
			t.Fatalf("edition %d is %#v", edition, item)
		}
		c = mustTake(t, c, edition%2, "a")
		if c.Last != edition || len(c.Items) != 1 || c.Items[0].Edition != 1 {
			t.Fatalf("behind edition %d there is %#v", edition, c)
		}
	}
	c = mustTake(t, c, 0, "b")
	if !sameCat(c, impl.Cat{Last: 300}) {
		t.Errorf("with all taken there is %#v", c)
	}
	// With CountMax editions there is no other one, whatever is taken.
	c = mustPut(t, impl.Cat{Last: 99998}, 0, "a", "x")
	c = mustTake(t, c, 0, "a")
	if got, code := impl.CatPut(c, 0, "a", "x"); code != impl.CatFull || !sameCat(got, impl.Cat{Last: 99999}) {
		t.Errorf("CatPut behind CountMax is %#v %d", got, code)
	}
}

// What is not there cannot be taken, and neither can what could not be there.
func TestP30CatTakeOfWhatIsNotThere(t *testing.T) {
	for _, c := range edgeCats() {
		for _, call := range append(oddCalls(), impl.Item{House: 0, Name: "q"}, impl.Item{House: 1, Name: "q"}) {
			if placeOf(c, call.House, call.Name) >= 0 {
				continue
			}
			if got, code := impl.CatTake(c, call.House, call.Name); code != impl.CatNone || !sameCat(got, c) {
				t.Errorf("CatTake of %d %q is %#v %d", call.House, call.Name, got, code)
			}
		}
	}
}

func TestP31NoHouseGivesOutMoreThanItMay(t *testing.T) {
	for house := range 2 {
		for _, sizes := range [][]int{{300, 200}, {200, 300}, {250, 250}, {300, 199, 1}, {1, 299, 200}, {100, 100, 100, 100, 100}, {300, 100, 50, 25, 24, 1}} {
			c := impl.Cat{}
			for i, size := range sizes {
				c = mustPut(t, c, house, nameLetters[i:i+1], strings.Repeat("x", size))
			}
			if got := impl.CatBytes(c, house); got != 500 || impl.CatBytes(c, 1-house) != 0 {
				t.Errorf("CatBytes of %v is %d", sizes, got)
			}
			if _, code := checkPut(t, c, house, "z", "x"); code != impl.CatFull {
				t.Errorf("a byte above HouseBytes is %d", code)
			}
			c = mustTake(t, c, house, "b")
			if _, code := checkPut(t, c, house, "z", strings.Repeat("x", sizes[1]+1)); sizes[1] < 300 && code != impl.CatFull {
				t.Errorf("a byte more than was taken is %d", code)
			}
			c = mustPut(t, c, house, "z", strings.Repeat("x", sizes[1]))
			if got := impl.CatBytes(c, house); got != 500 {
				t.Errorf("CatBytes behind a take and a put is %d", got)
			}
		}
	}
}

// All that may be done, in many orders, by what chapter 9 says of it.
func TestP31AndP32ManyPutsAndTakes(t *testing.T) {
	r := newSource(94)
	for range 60 {
		c := impl.Cat{Last: []int{0, 0, 99980, r.Intn(99999)}[r.Intn(4)]}
		for range 60 {
			house, name := r.Intn(2), catNames()[r.Intn(10)]
			was, all := impl.CatBytes(c, 1-house), 0
			var next impl.Cat
			if r.Intn(3) == 0 {
				checkGet(t, c, true, house, name)
				next, _ = impl.CatTake(c, house, name)
			} else {
				text := catTexts()[r.Intn(14)]
				if r.Intn(2) == 0 {
					text = someBlock(r, 1+r.Intn(120))
				}
				next, _ = checkPut(t, c, house, name, text)
			}
			for _, item := range next.Items {
				if item.House == house {
					all += len(item.Text)
				}
			}
			if impl.CatBytes(next, 1-house) != was || impl.CatBytes(next, house) != all || all > impl.HouseBytes || !impl.CatOk(next) {
				t.Fatalf("behind %#v there is %#v", c, next)
			}
			c = next
		}
	}
}

// What is full of one house is not of the other.
func TestP32OneHouseDoesNotChangeAnother(t *testing.T) {
	c := bytesCat(0, 200)
	one := mustPut(t, c, 1, "a", strings.Repeat("y", 300))
	two := mustPut(t, one, 1, "b", strings.Repeat("y", 200))
	for _, c := range []impl.Cat{one, two, mustTake(t, two, 1, "a"), mustTake(t, two, 1, "b")} {
		if impl.CatBytes(c, 0) != 500 || c.Items[0] != bytesCat(0, 200).Items[0] || c.Items[1] != bytesCat(0, 200).Items[1] {
			t.Errorf("the other house changed: %#v", c)
		}
	}
	// A name that both have is taken of one alone.
	if got := mustTake(t, two, 0, "a"); impl.CatBytes(got, 1) != 500 || impl.CatBytes(got, 0) != 200 {
		t.Errorf("CatTake of house 0 leaves %#v", got)
	}
}

func TestP33CatRecord(t *testing.T) {
	for _, house := range []int{0, 1} {
		for _, name := range catNames() {
			for _, text := range append(catTexts(), "") {
				want := fmt.Sprintf("%d %s:%s", house, name, text)
				if got := impl.CatRecord(house, name, text); got != want {
					t.Fatalf("CatRecord of %d %q %q is %q", house, name, text, got)
				}
			}
		}
	}
	for _, call := range oddCalls() {
		if call.Text == "" && call.House == 1 {
			continue // such without a text
		}
		if got := impl.CatRecord(call.House, call.Name, call.Text); got != "" {
			t.Errorf("CatRecord of %d %q %q is %q", call.House, call.Name, call.Text, got)
		}
	}
	for _, call := range []impl.Item{{House: 2, Name: "b"}, {House: -1, Name: "b"}, {House: tooBig, Name: "b"}, {House: 0, Name: ""}, {House: 0, Name: "abcdefg"}, {House: 0, Name: "A"}} {
		if got := impl.CatRecord(call.House, call.Name, ""); got != "" {
			t.Errorf("CatRecord of %d %q without a text is %q", call.House, call.Name, got)
		}
	}
}

func TestP33WhatIsWrittenDownSaysWhatWasDone(t *testing.T) {
	for _, house := range []int{0, 1} {
		for _, name := range catNames() {
			for _, text := range catTexts() {
				record := impl.CatRecord(house, name, text)
				want := impl.Cat{Last: 1, Items: []impl.Item{{House: house, Name: name, Edition: 1, Text: text}}}
				if got, ok := impl.CatOf([]string{record}); !ok || !sameCat(got, want) {
					t.Fatalf("CatOf of %q is %#v %#v", record, got, ok)
				}
				if got, ok := impl.CatOf([]string{record, impl.CatRecord(house, name, "")}); !ok || !sameCat(got, impl.Cat{Last: 1}) {
					t.Fatalf("CatOf of %q and without a text is %#v %#v", record, got, ok)
				}
			}
		}
	}
	if got, ok := impl.CatOf(nil); !ok || !sameCat(got, impl.Cat{}) {
		t.Errorf("CatOf of nothing is %#v %#v", got, ok)
	}
}

// badRecords are nearly records of the thing `a` of house 0.
func badRecords() []string {
	records := []string{
		"", " ", ":", "0", "0 ", "0 a", "a:x", " a:x", "0a:x", "0:a x", "0:x", "0 :x", "0 :", "0  a:x", "0\ta:x", "0\na:x", "0 a x", "0 a;x", "0 ax", "0 A:x", "0 a :x", "0 a1:x", "0 abcdefg:x", "0 a\x00:x", "0 \xc3\xa9:x", "x a:x", "0 b c:x",
		"0 a:" + strings.Repeat("x", 301), "0 a:" + strings.Repeat("x", 100000), strings.Repeat("0", 100000), strings.Repeat(" ", 100000), strings.Repeat("a", 100000) + ":",
		"2 a:x", "3 a:x", "9 a:x", "10 a:x", "99999 a:x", "100000 a:x", "999999 a:x", "1000000 a:x", "4294967296 a:x", "18446744073709551616 a:x", "18446744073709551617 a:x",
	}
	for _, house := range []string{"00", "01", "000000", "0000000", "000001", "+0", "-0", "+1", "-1", " 0", " 1", "0x0", "0.", "1e0", "0_0", "\xd9\xa0", "", "1 ", "-"} {
		records = append(records, house+" a:x", house+" a:")
	}
	return records
}

func TestP33TextsThatAreNoRecords(t *testing.T) {
	for _, record := range badRecords() {
		for _, records := range [][]string{{record}, {"0 b:x", record}, {record, "0 b:x"}, {"0 a:x", "0 a:", record}, {"0 b:x", record, "0 b:"}} {
			if got, ok := impl.CatOf(records); ok || !sameCat(got, impl.Cat{}) {
				t.Errorf("CatOf of %q is %#v %#v", records, got, ok)
			}
		}
		// Where the thing is there, the record does not take it either.
		if got, ok := impl.CatOf([]string{"0 a:x", "1 a:y", record}); ok || !sameCat(got, impl.Cat{}) {
			t.Errorf("CatOf of %q behind the thing is %#v %#v", record, got, ok)
		}
	}
}

// Records that are right by themselves, but have a code.
func TestP33RecordsThatHaveACode(t *testing.T) {
	var full, bytes []string
	for i := range 8 {
		full = append(full, impl.CatRecord(i%2, nameLetters[i:i+1], "x"))
	}
	bytes = []string{impl.CatRecord(0, "a", strings.Repeat("x", 300)), impl.CatRecord(0, "b", strings.Repeat("x", 200))}
	for _, records := range [][]string{
		{"0 a:"}, {"0 a:x", "1 a:"}, {"0 a:x", "0 b:"}, {"0 a:x", "0 a:", "0 a:"}, {"0 a:x", "0 a:x"}, {"0 a:x", "0 a:y"}, {"0 ab:x", "0 a:"}, {"0 a:x", "0 ab:"},
		append(slices.Clone(full), "0 z:x"), append(slices.Clone(full), "1 z:x"), append(slices.Clone(bytes), "0 c:x"),
	} {
		if got, ok := impl.CatOf(records); ok || !sameCat(got, impl.Cat{}) {
			t.Errorf("CatOf of %q is %#v %#v", records, got, ok)
		}
	}
	if got, ok := impl.CatOf(full); !ok || len(got.Items) != 8 || got.Last != 8 {
		t.Errorf("CatOf of CatMax records is %#v %#v", got, ok)
	}
	if got, ok := impl.CatOf(bytes); !ok || impl.CatBytes(got, 0) != 500 {
		t.Errorf("CatOf of HouseBytes bytes is %#v %#v", got, ok)
	}
}

// someRecordList draws records that all have no code, and what they say, record by record.
func someRecordList(r *rand.Rand) ([]string, []impl.Cat) {
	var records []string
	cats := []impl.Cat{{}}
	for range r.Intn(40) {
		house, name, text := r.Intn(2), catNames()[r.Intn(10)], catTexts()[r.Intn(14)]
		next, code := wantPut(cats[len(cats)-1], house, name, text)
		if r.Intn(3) == 0 || code == 2 {
			text = ""
			next, code = wantTake(cats[len(cats)-1], house, name)
		}
		if code == 0 {
			records, cats = append(records, fmt.Sprintf("%d %s:%s", house, name, text)), append(cats, next)
		}
	}
	return records, cats
}

func TestP34RecordsBehindRecords(t *testing.T) {
	r := newSource(95)
	for range 300 {
		records, cats := someRecordList(r)
		was := impl.Cat{}
		for i := range cats {
			got, ok := impl.CatOf(records[:i])
			if !ok || !sameCat(got, cats[i]) || !impl.CatOk(got) {
				t.Fatalf("CatOf of %q is %#v %#v", records[:i], got, ok)
			}
			if i > 0 {
				// Without a text it is one thing less, and no edition more.
				things, editions := 1, 1
				if strings.Index(records[i-1], ":") == len(records[i-1])-1 {
					things, editions = -1, 0
				}
				if len(got.Items) != len(was.Items)+things || got.Last != was.Last+editions {
					t.Fatalf("CatOf of %q is %#v behind %#v", records[:i], got, was)
				}
			}
			was = got
		}
		// One that has a code makes all of them nothing, wherever it stands.
		at := r.Intn(len(records) + 1)
		if got, ok := impl.CatOf(slices.Insert(slices.Clone(records), at, "1 nobody:")); ok || !sameCat(got, impl.Cat{}) {
			t.Fatalf("CatOf with a code at %d of %q is %#v %#v", at, records, got, ok)
		}
	}
}

// As many editions as there may be, and one more.
func TestP34CountMaxEditions(t *testing.T) {
	records := []string{"1 b:there"}
	for range 99998 {
		records = append(records, "0 a:x", "0 a:")
	}
	got, ok := impl.CatOf(records)
	if !ok || got.Last != 99999 || len(got.Items) != 1 || got.Items[0].Edition != 1 {
		t.Errorf("CatOf of CountMax editions is %#v %#v", got, ok)
	}
	if got, ok := impl.CatOf(append(slices.Clone(records), "1 b:")); !ok || !sameCat(got, impl.Cat{Last: 99999}) {
		t.Errorf("CatOf with all taken is %#v %#v", got, ok)
	}
	if got, ok := impl.CatOf(append(slices.Clone(records), "0 a:x")); ok || !sameCat(got, impl.Cat{}) {
		t.Errorf("CatOf of one edition more is %#v %#v", got, ok)
	}
}
