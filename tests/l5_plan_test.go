package tests

import (
	"fmt"
	"math/rand"
	"regexp"
	"slices"
	"strconv"
	"strings"
	"testing"

	"loop.example/wellhead/impl"
)

// samePlan compares plans; the empty and the nil list are the same.
func samePlan(a impl.Plan, b impl.Plan) bool {
	return a.Long == b.Long && a.Size == b.Size && slices.Equal(a.Windows, b.Windows) && slices.Equal(a.Weights, b.Weights)
}

// copyPlan is a plan in memory of its own.
func copyPlan(p impl.Plan) impl.Plan {
	p.Windows, p.Weights = slices.Clone(p.Windows), slices.Clone(p.Weights)
	return p
}

// blocksFor counts blocks one by one, until they are long enough.
func blocksFor(long int, size int) int {
	count := 0
	for bytes := 0; bytes < long; bytes += size {
		count++
	}
	return count
}

// planHasForm says whether a plan is as chapter 5 has it, written out plainly.
func planHasForm(p impl.Plan) bool {
	if p.Long < 1 || p.Long > 300 || p.Size < 1 || p.Size > 16 {
		return false
	}
	count := blocksFor(p.Long, p.Size)
	if count > 24 || len(p.Windows) == 0 || len(p.Windows) > 3 || len(p.Weights) != len(p.Windows) {
		return false
	}
	for i := range p.Windows {
		if p.Windows[i] < 1 || p.Windows[i] > count || p.Weights[i] < 1 || p.Weights[i] > 99 || i > 0 && p.Windows[i-1] >= p.Windows[i] {
			return false
		}
	}
	return p.Windows[len(p.Windows)-1] == count
}

// somePlan draws a plan that is ok.
func somePlan(r *rand.Rand) impl.Plan {
	for {
		p := impl.Plan{Long: 1 + r.Intn(300), Size: 1 + r.Intn(16)}
		count := blocksFor(p.Long, p.Size)
		if count > 24 {
			continue
		}
		for window := 1; window < count; window++ {
			if len(p.Windows) < 2 && r.Intn(count) < 3 {
				p.Windows = append(p.Windows, window)
			}
		}
		p.Windows = append(p.Windows, count)
		for range p.Windows {
			p.Weights = append(p.Weights, []int{1, 99, 1 + r.Intn(99)}[r.Intn(3)])
		}
		return p
	}
}

// edgePlans are ok, each at a limit.
func edgePlans() []impl.Plan {
	return []impl.Plan{
		{Long: 1, Size: 1, Windows: []int{1}, Weights: []int{1}},
		{Long: 1, Size: 16, Windows: []int{1}, Weights: []int{99}},
		{Long: 24, Size: 1, Windows: []int{24}, Weights: []int{99}},
		{Long: 24, Size: 1, Windows: []int{1, 23, 24}, Weights: []int{1, 99, 1}},
		{Long: 24, Size: 1, Windows: []int{22, 23, 24}, Weights: []int{99, 99, 99}},
		{Long: 24, Size: 1, Windows: []int{1, 2, 24}, Weights: []int{1, 1, 1}},
		{Long: 288, Size: 12, Windows: []int{6, 24}, Weights: []int{2, 3}},
		{Long: 300, Size: 13, Windows: []int{24}, Weights: []int{1}},
		{Long: 300, Size: 16, Windows: []int{5, 19}, Weights: []int{99, 1}},
		{Long: 16, Size: 16, Windows: []int{1}, Weights: []int{50}},
		{Long: 17, Size: 16, Windows: []int{1, 2}, Weights: []int{1, 99}},
		{Long: 60, Size: 8, Windows: []int{2, 4, 8}, Weights: []int{10, 9, 8}},
	}
}

// badPlans are not ok, each in one way.
func badPlans() []impl.Plan {
	bad := []impl.Plan{{}}
	for _, c := range []struct{ long, size, count int }{
		{0, 8, 0}, {-1, 8, 0}, {-8, 8, -1}, {301, 16, 19}, {tooBig, 16, 24}, {tooSmall, 16, 1}, {1000, 16, 63}, {8, 0, 1}, {8, -1, 8}, {8, -8, 1}, {8, 17, 1}, {8, tooBig, 1}, {8, tooSmall, 1},
		{25, 1, 25}, {289, 12, 25}, {300, 12, 25}, {49, 2, 25}, {300, 1, 300}, {60, 8, 7}, {60, 8, 9}, {64, 8, 9}, {65, 8, 8}, {0, 0, 0}, {60, 8, 0}, {60, 8, -8}, {60, 8, tooBig}, {60, 8, tooSmall},
	} {
		bad = append(bad, impl.Plan{Long: c.long, Size: c.size, Windows: []int{c.count}, Weights: []int{1}})
	}
	// Of eight blocks.
	for _, c := range []struct{ windows, weights []int }{
		{nil, nil}, {nil, []int{1}}, {[]int{8}, nil}, {[]int{8}, []int{1, 1}}, {[]int{2, 8}, []int{1}}, {[]int{2, 8}, []int{1, 1, 1}}, {[]int{8}, []int{0}}, {[]int{8}, []int{100}}, {[]int{8}, []int{-1}},
		{[]int{8}, []int{tooBig}}, {[]int{8}, []int{tooSmall}}, {[]int{2, 8}, []int{0, 1}}, {[]int{2, 8}, []int{1, 0}}, {[]int{2, 8}, []int{100, 1}}, {[]int{2, 8}, []int{1, 100}}, {[]int{2, 4, 8}, []int{1, 100, 1}}, {[]int{2, 4, 8}, []int{1, 0, 1}},
		{[]int{0, 8}, []int{1, 1}}, {[]int{-1, 8}, []int{1, 1}}, {[]int{2, 2, 8}, []int{1, 1, 1}}, {[]int{8, 8}, []int{1, 1}}, {[]int{4, 2, 8}, []int{1, 1, 1}}, {[]int{8, 2}, []int{1, 1}}, {[]int{9, 8}, []int{1, 1}}, {[]int{2, 9, 8}, []int{1, 1, 1}},
		{[]int{2, 7}, []int{1, 1}}, {[]int{2, 9}, []int{1, 1}}, {[]int{7}, []int{1}}, {[]int{9}, []int{1}}, {[]int{1, 2, 3, 8}, []int{1, 1, 1, 1}}, {[]int{1, 2, 8}, []int{1, 1}}, {[]int{8, 9}, []int{1, 1}}, {[]int{2, 8, 7}, []int{1, 1, 1}}, {[]int{2, 8, 8}, []int{1, 1, 1}},
	} {
		bad = append(bad, impl.Plan{Long: 60, Size: 8, Windows: c.windows, Weights: c.weights})
	}
	return bad
}

// someText draws a text of so many bytes.
func someText(r *rand.Rand, long int) string {
	return someBlock(r, long)
}

func TestPlanOk(t *testing.T) {
	for _, p := range edgePlans() {
		if !planHasForm(p) || !impl.PlanOk(p) || impl.PlanCount(p) != blocksFor(p.Long, p.Size) {
			t.Errorf("PlanOk of %#v is %#v, PlanCount %d", p, impl.PlanOk(p), impl.PlanCount(p))
		}
	}
	r := newSource(51)
	for range 2000 {
		if p := somePlan(r); !impl.PlanOk(p) || impl.PlanCount(p) != blocksFor(p.Long, p.Size) {
			t.Fatalf("PlanOk of %#v is %#v, PlanCount %d", p, impl.PlanOk(p), impl.PlanCount(p))
		}
	}
}

// PlanOk is tried on all lengths and sizes, with what the last window has to be, and one more or less.
func TestPlanOkOfAllLengthsAndSizes(t *testing.T) {
	for long := -1; long <= 302; long++ {
		for size := -1; size <= 18; size++ {
			count := 1
			if long > 0 && size > 0 {
				count = blocksFor(long, size)
			}
			for _, last := range []int{count - 1, count, count + 1} {
				p := impl.Plan{Long: long, Size: size, Windows: []int{last}, Weights: []int{1}}
				if got := impl.PlanOk(p); got != planHasForm(p) {
					t.Fatalf("PlanOk of %#v is %#v", p, got)
				}
			}
		}
	}
}

// PlanOk is tried on all that up to four windows of three blocks can be.
func TestPlanOkOfAllWindows(t *testing.T) {
	lists := [][]int{nil}
	for at := 0; at < len(lists); at++ {
		if len(lists[at]) < 4 {
			for window := -1; window <= 4; window++ {
				lists = append(lists, slices.Concat(lists[at], []int{window}))
			}
		}
	}
	for _, windows := range lists {
		for _, weights := range [][]int{nil, {1}, {1, 99}, {99, 1, 50}, {1, 1, 1, 1}} {
			p := impl.Plan{Long: 5, Size: 2, Windows: windows, Weights: weights}
			if got := impl.PlanOk(p); got != planHasForm(p) {
				t.Fatalf("PlanOk of %#v is %#v", p, got)
			}
		}
	}
}

func TestPlansThatAreNotOk(t *testing.T) {
	for _, p := range badPlans() {
		if planHasForm(p) {
			t.Fatalf("%#v is ok", p)
		}
		if impl.PlanOk(p) || impl.PlanCount(p) != 0 || impl.PlanWrite(p) != "" {
			t.Errorf("PlanOk of %#v is %#v, PlanCount %d, PlanWrite %q", p, impl.PlanOk(p), impl.PlanCount(p), impl.PlanWrite(p))
		}
		text := ""
		if p.Long > 0 && p.Long < 2000 {
			text = strings.Repeat("x", p.Long)
		}
		if got := impl.PlanCut(p, text); len(got) != 0 {
			t.Errorf("PlanCut of %#v is %q", p, got)
		}
		for _, id := range []int{-1, 0, 1, 7, 8, 9, 30, impl.IdMax, impl.IdMax + 1} {
			if got := impl.PlanRow(p, id); len(got) != 0 {
				t.Errorf("PlanRow of %#v and %d is %v", p, id, got)
			}
			if got, ok := impl.PlanSymbol(p, text, id); got != "" || ok {
				t.Errorf("PlanSymbol of %#v and %d is %q %#v", p, id, got, ok)
			}
		}
	}
}

// planPattern is a plan's text, with numbers of at most six figures and no needless zeros.
var planPattern = regexp.MustCompile(`^(0|[1-9][0-9]{0,5})/(0|[1-9][0-9]{0,5}):((?:0|[1-9][0-9]{0,5})(?:,(?:0|[1-9][0-9]{0,5}))*):((?:0|[1-9][0-9]{0,5})(?:,(?:0|[1-9][0-9]{0,5}))*)$`)

// wantPlanRead reads a plan by a pattern.
func wantPlanRead(text string) (impl.Plan, bool) {
	parts := planPattern.FindStringSubmatch(text)
	if parts == nil || strings.HasSuffix(text, "\n") {
		return impl.Plan{}, false
	}
	number := func(figures string) int {
		n, _ := strconv.Atoi(figures)
		return n
	}
	p := impl.Plan{Long: number(parts[1]), Size: number(parts[2])}
	for _, figures := range strings.Split(parts[3], ",") {
		p.Windows = append(p.Windows, number(figures))
	}
	for _, figures := range strings.Split(parts[4], ",") {
		p.Weights = append(p.Weights, number(figures))
	}
	if !planHasForm(p) {
		return impl.Plan{}, false
	}
	return p, true
}

// checkPlanRead holds what is read of a text against the pattern.
func checkPlanRead(t *testing.T, text string) {
	t.Helper()
	want, wantOk := wantPlanRead(text)
	got, ok := impl.PlanRead(text)
	if ok != wantOk || !samePlan(got, want) {
		t.Fatalf("PlanRead of %q is %#v %#v, not %#v %#v", text, got, ok, want, wantOk)
	}
	if ok && impl.PlanWrite(got) != text {
		t.Fatalf("PlanRead reads %q, PlanWrite writes %q", text, impl.PlanWrite(got))
	}
}

func TestP14APlanCanBeWrittenAndReadAgain(t *testing.T) {
	r := newSource(52)
	plans := edgePlans()
	for range 2000 {
		plans = append(plans, somePlan(r))
	}
	for long := 1; long <= impl.LongMax; long++ {
		plans = append(plans, impl.PlanFor(long))
	}
	for _, p := range plans {
		text := impl.PlanWrite(p)
		want := fmt.Sprintf("%d/%d:%s:%s", p.Long, p.Size, strings.ReplaceAll(strings.Trim(fmt.Sprint(p.Windows), "[]"), " ", ","), strings.ReplaceAll(strings.Trim(fmt.Sprint(p.Weights), "[]"), " ", ","))
		if got, ok := impl.PlanRead(text); text != want || !ok || !samePlan(got, p) {
			t.Fatalf("PlanWrite of %#v is %q, not %q, which PlanRead reads as %#v %#v", p, text, want, got, ok)
		}
	}
}

// What is nearly a plan's text: each byte of one gone, another one, or one more, or two changed places.
func TestP14TextsThatAreNearlyPlans(t *testing.T) {
	const bytes = "0123456789/:,-+ \n\x00ax."
	for _, text := range []string{"60/8:2,8:2,3", "60/8:8:1", "8/8:1:1", "300/13:6,24:2,3", "24/1:1,2,24:1,99,10", "1/1:1:99"} {
		checkPlanRead(t, text)
		for at := range len(text) + 1 {
			checkPlanRead(t, text[:at])
			checkPlanRead(t, text[at:])
			for _, b := range []byte(bytes) {
				checkPlanRead(t, text[:at]+string(rune(b))+text[at:])
				if at < len(text) {
					checkPlanRead(t, text[:at]+string(rune(b))+text[at+1:])
				}
			}
			if at < len(text) {
				checkPlanRead(t, text[:at]+text[at+1:])
			}
			if at+1 < len(text) {
				checkPlanRead(t, text[:at]+text[at+1:at+2]+text[at:at+1]+text[at+2:])
			}
		}
	}
}

func TestP14TextsThatAreNoPlans(t *testing.T) {
	for _, text := range []string{
		"", "/", "::", "/::", "60", "60/8", "60/8:8", "60/8:8:", "60/8::1", "60/:8:1", "/8:8:1", "60/8:8:1:", "60/8:8:1:1", ":60/8:8:1", "60/8:8:1\n", "60/8:8:1 ", " 60/8:8:1", "60 /8:8:1", "60/ 8:8:1", "60/8: 8:1", "60/8:8: 1",
		"060/8:8:1", "60/08:8:1", "60/8:08:1", "60/8:8:01", "+60/8:8:1", "60/+8:8:1", "60/8:+8:1", "60/8:8:+1", "-60/8:8:1", "60/-8:8:1", "60/8:-8:1", "60/8:8:-1", "60/8:8:-0",
		"000060/8:8:1", "0000060/8:8:1", "60/8:000008:1", "60/8:8:0000001", "100000/8:8:1", "999999/8:8:1", "1000000/8:8:1", "60/100000:8:1", "60/1000000:8:1", "60/8:100000:1", "60/8:1000000:1", "60/8:8:100000", "60/8:8:1000000",
		"18446744073709551676/8:8:1", "60/18446744073709551624:8:1", "60/8:18446744073709551624:1", "60/8:8:18446744073709551617",
		"60/8:,8:1,1", "60/8:2,,8:1,1", "60/8:2,8,:1,1", "60/8:2,8:1,1,", "60/8:2,8:,1,1", "60/8:2,8:1", "60/8:8:1,1", "60/8:2 8:1 1", "60/8:2;8:1;1", "60/8:2.8:1.1", "60/8:[8]:1",
		"60/8:1,2,3,8:1,1,1,1", "60/8:2,7:2,3", "60/8:2,9:2,3", "60/8:8,2:2,3", "60/8:2,2,8:1,1,1", "60/8:0,8:1,1", "60/8:8:0", "60/8:8:100", "0/8:8:1", "301/16:19:1", "60/0:8:1", "60/17:4:1", "25/1:25:1",
		"6_0/8:8:1", "0x3c/8:8:1", "60/8:8:1e0", "60/8:8:\xd9\xa1", "60/8:8:1\x00", "60\x00/8:8:1", "60:8/8:1", "60/8/8/1", "60:8:8:1",
		strings.Repeat("1,", 100000), strings.Repeat("9", 100000), "60/8:" + strings.Repeat("1,", 100000) + "8:1",
	} {
		if got, ok := impl.PlanRead(text); ok || !samePlan(got, impl.Plan{}) {
			t.Errorf("PlanRead of %q is %#v %#v", text, got, ok)
		}
	}
}

func TestP15ThereIsAPlanForEachLength(t *testing.T) {
	for long := 1; long <= 300; long++ {
		size := 8
		for blocksFor(long, size) > 24 {
			size++
		}
		count := blocksFor(long, size)
		first := 0
		for 4*first < count {
			first++
		}
		want := impl.Plan{Long: long, Size: size, Windows: []int{first, count}, Weights: []int{2, 3}}
		if first >= count {
			want.Windows, want.Weights = []int{count}, []int{1}
		}
		got := impl.PlanFor(long)
		if !samePlan(got, want) || !impl.PlanOk(got) || got.Long != long {
			t.Errorf("PlanFor of %d is %#v, not %#v", long, got, want)
		}
		if n := impl.PlanCount(got); n*got.Size < long || (n-1)*got.Size >= long {
			t.Errorf("PlanFor of %d has %d blocks of %d bytes", long, n, got.Size)
		}
	}
	for _, long := range []int{0, -1, -8, -300, 301, 302, 384, 385, tooBig, tooSmall} {
		if got := impl.PlanFor(long); !samePlan(got, impl.Plan{}) {
			t.Errorf("PlanFor of %d is %#v", long, got)
		}
	}
}

func TestP15PlansAtTheirEdges(t *testing.T) {
	for long, want := range map[int]string{1: "1/8:1:1", 8: "8/8:1:1", 9: "9/8:1,2:2,3", 32: "32/8:1,4:2,3", 33: "33/8:2,5:2,3", 192: "192/8:6,24:2,3", 193: "193/9:6,22:2,3", 216: "216/9:6,24:2,3", 217: "217/10:6,22:2,3", 288: "288/12:6,24:2,3", 289: "289/13:6,23:2,3", 300: "300/13:6,24:2,3"} {
		if got := impl.PlanWrite(impl.PlanFor(long)); got != want {
			t.Errorf("PlanFor of %d is %q, not %q", long, got, want)
		}
	}
}

func TestP16BlocksPutTogetherAreTheThing(t *testing.T) {
	r := newSource(53)
	plans := edgePlans()
	for long := 1; long <= impl.LongMax; long++ {
		plans = append(plans, impl.PlanFor(long), somePlan(r))
	}
	for _, p := range plans {
		text := someText(r, p.Long)
		blocks := impl.PlanCut(p, text)
		all := strings.Join(blocks, "")
		if len(blocks) != impl.PlanCount(p) || all != text+noughts(len(blocks)*p.Size-p.Long) {
			t.Fatalf("PlanCut of %#v and %q is %q", p, text, blocks)
		}
		for _, block := range blocks {
			if len(block) != p.Size {
				t.Fatalf("PlanCut of %#v and %q has the block %q", p, text, block)
			}
		}
		for _, other := range []string{"", text[1:], text[:p.Long-1], text + "x", text + "\x00", all + "x", strings.Repeat("x", 100000)} {
			if got := impl.PlanCut(p, other); len(got) != 0 {
				t.Fatalf("PlanCut of %#v and a text of %d bytes is %q", p, len(other), got)
			}
		}
	}
}

// A last block that is full, one that has a byte, and one that lacks one.
func TestP16TheLastBlock(t *testing.T) {
	for _, c := range []struct {
		long int
		last string
	}{{16, "abcdefgh"}, {17, "a\x00\x00\x00\x00\x00\x00\x00"}, {23, "abcdefg\x00"}, {24, "abcdefgh"}, {1, "a\x00\x00\x00\x00\x00\x00\x00"}} {
		blocks := impl.PlanCut(impl.PlanFor(c.long), strings.Repeat("abcdefgh", 3)[:c.long])
		if len(blocks) != blocksFor(c.long, 8) || blocks[len(blocks)-1] != c.last {
			t.Errorf("PlanCut of %d bytes is %q", c.long, blocks)
		}
	}
}

// wantRow is the row of a symbol, its window picked from a list that has each as often as its weight.
func wantRow(p impl.Plan, id int) []int {
	if id < blocksFor(p.Long, p.Size) {
		return []int{id}
	}
	var drum []int
	for i, window := range p.Windows {
		for range p.Weights[i] {
			drum = append(drum, window)
		}
	}
	return impl.RowDraw(drum[wantNext(id)/256%len(drum)], id)
}

func TestP17RowsOfSymbols(t *testing.T) {
	r := newSource(54)
	plans := append(edgePlans(), impl.PlanFor(60), impl.PlanFor(300), impl.PlanFor(1), somePlan(r), somePlan(r), somePlan(r))
	for _, p := range plans {
		for id := range impl.IdMax + 1 {
			if got := impl.PlanRow(p, id); !slices.Equal(got, wantRow(p, id)) || !impl.RowOk(got, impl.PlanCount(p)) || len(got) == 0 {
				t.Fatalf("PlanRow of %#v and %d is %v, not %v", p, id, got, wantRow(p, id))
			}
		}
		for _, id := range []int{-1, -2, impl.IdMax + 1, impl.IdMax + 2, impl.SeedMax, tooBig, tooSmall} {
			if got := impl.PlanRow(p, id); len(got) != 0 {
				t.Fatalf("PlanRow of %#v and %d is %v", p, id, got)
			}
		}
	}
}

func TestP17RowsOfOnePlan(t *testing.T) {
	p := impl.PlanFor(60)
	for id, want := range map[int][]int{0: {0}, 7: {7}, 8: {0, 1, 2, 3, 4, 5, 6, 7}, 9: {1, 2, 6}, 20: {0, 1}} {
		if got := impl.PlanRow(p, id); !slices.Equal(got, want) {
			t.Errorf("PlanRow of %d is %v, not %v", id, got, want)
		}
	}
}

// Each window is told, about as often as its weight says.
func TestP17EachWindowIsTold(t *testing.T) {
	p := impl.Plan{Long: 24, Size: 1, Windows: []int{1, 8, 24}, Weights: []int{1, 99, 50}}
	told := [3]int{}
	for id := 24; id <= impl.IdMax; id++ {
		row := impl.PlanRow(p, id)
		for i, window := range p.Windows {
			if slices.Equal(row, impl.RowDraw(window, id)) {
				told[i]++
				break
			}
		}
	}
	// The first window draws what a greater one may draw as well, so it is not held to its share.
	if told[0] == 0 || told[1] < 5*told[2]/4 || told[2] < 2000 {
		t.Errorf("windows are told %v times", told)
	}
}

func TestP18ASymbolIsAllBlocksOfItsRow(t *testing.T) {
	r := newSource(55)
	plans := edgePlans()
	for range 100 {
		plans = append(plans, somePlan(r), impl.PlanFor(1+r.Intn(300)))
	}
	for _, p := range plans {
		text := someText(r, p.Long)
		padded := text + noughts(16)
		for _, id := range []int{0, 1, 2, blocksFor(p.Long, p.Size) - 1, blocksFor(p.Long, p.Size), 24, 25, 100, r.Intn(10000), impl.IdMax - 1, impl.IdMax} {
			want := noughts(p.Size)
			for _, at := range wantRow(p, id) {
				want = mixed(want, padded[at*p.Size:(at+1)*p.Size])
			}
			sum, sumOk := impl.RowSum(impl.PlanCut(p, text), impl.PlanRow(p, id))
			if got, ok := impl.PlanSymbol(p, text, id); got != want || !ok || sum != want || !sumOk {
				t.Fatalf("PlanSymbol of %#v, %q and %d is %q %#v, not %q", p, text, id, got, ok, want)
			}
		}
	}
}

func TestP18WhatIsNoSymbol(t *testing.T) {
	for _, p := range edgePlans() {
		text := strings.Repeat("x", p.Long)
		for _, id := range []int{-1, -2, impl.IdMax + 1, impl.IdMax + 2, tooBig, tooSmall} {
			if got, ok := impl.PlanSymbol(p, text, id); got != "" || ok {
				t.Errorf("PlanSymbol of %#v and %d is %q %#v", p, id, got, ok)
			}
		}
		for _, other := range []string{"", text[1:], text + "x", text + "\x00"} {
			for _, id := range []int{-1, 0, 30, impl.IdMax} {
				if got, ok := impl.PlanSymbol(p, other, id); got != "" || ok {
					t.Errorf("PlanSymbol of %#v, %d bytes and %d is %q %#v", p, len(other), id, got, ok)
				}
			}
		}
	}
}
