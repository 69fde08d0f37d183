package tests

import (
	"math/rand"
	"slices"
	"strings"
	"testing"

	"loop.example/wellhead/impl"
)

// sameGetting compares what is known.
func sameGetting(a impl.Getting, b impl.Getting) bool {
	return samePlan(a.Plan, b.Plan) && sameSolver(a.Solver, b.Solver)
}

// copyGetting is what is known, in memory of its own.
func copyGetting(g impl.Getting) impl.Getting {
	return impl.Getting{Plan: copyPlan(g.Plan), Solver: copySolver(g.Solver)}
}

// smallPlan draws a plan of at most six blocks, of which all that is told can be tried.
func smallPlan(r *rand.Rand) impl.Plan {
	for {
		if p := somePlan(r); blocksFor(p.Long, p.Size) <= 6 {
			return p
		}
	}
}

// mustSymbol is a symbol that there has to be.
func mustSymbol(t *testing.T, p impl.Plan, text string, id int) string {
	t.Helper()
	data, ok := impl.PlanSymbol(p, text, id)
	if !ok {
		t.Fatalf("PlanSymbol of %#v and %d is false", p, id)
	}
	return data
}

// mustGet learns a symbol of a text that fits what is known.
func mustGet(t *testing.T, g impl.Getting, text string, id int) impl.Getting {
	t.Helper()
	next, code := impl.GetAdd(g, id, mustSymbol(t, g.Plan, text, id))
	if code != impl.SolveNew && code != impl.SolveKnown {
		t.Fatalf("GetAdd of the symbol %d is %d", id, code)
	}
	return next
}

// someGetting draws what is known behind some symbols of a text.
func someGetting(t *testing.T, r *rand.Rand, p impl.Plan, text string) impl.Getting {
	t.Helper()
	g := impl.GetNew(p)
	for range r.Intn(2*impl.PlanCount(p) + 1) {
		g = mustGet(t, g, text, someId(r, p))
	}
	return g
}

// someId draws the number of a symbol, at times of a block.
func someId(r *rand.Rand, p impl.Plan) int {
	if r.Intn(3) == 0 {
		return r.Intn(impl.PlanCount(p))
	}
	return r.Intn(impl.IdMax + 1)
}

// badGettings are not ok, each in one way.
func badGettings(t *testing.T) []impl.Getting {
	p := impl.PlanFor(60)
	fine := impl.GetNew(p).Solver
	bad := []impl.Getting{
		{}, {Plan: p}, {Solver: fine}, {Plan: p, Solver: impl.SolverNew(7, 8)}, {Plan: p, Solver: impl.SolverNew(9, 8)}, {Plan: p, Solver: impl.SolverNew(8, 7)}, {Plan: p, Solver: impl.SolverNew(8, 9)},
		{Plan: p, Solver: impl.SolverNew(24, 16)}, {Plan: impl.PlanFor(64), Solver: impl.SolverNew(1, 8)}, {Plan: impl.PlanFor(56), Solver: fine}, {Plan: impl.PlanFor(65), Solver: fine},
		{Plan: p, Solver: impl.Solver{Count: 8, Size: 8, Eqs: []impl.Eq{{Row: []int{8}, Data: noughts(8)}}}},
		{Plan: p, Solver: impl.Solver{Count: 8, Size: 8, Eqs: []impl.Eq{{Row: []int{0}, Data: noughts(7)}}}},
		{Plan: p, Solver: impl.Solver{Count: 8, Size: 8, Eqs: []impl.Eq{{Row: []int{1}, Data: noughts(8)}, {Row: []int{0}, Data: noughts(8)}}}},
		{Plan: p, Solver: impl.Solver{Count: 8, Size: 8, Eqs: []impl.Eq{{Row: nil, Data: noughts(8)}}}},
		{Plan: impl.Plan{Long: 60, Size: 8, Windows: []int{2, 7}, Weights: []int{2, 3}}, Solver: fine},
		{Plan: impl.Plan{Long: 60, Size: 8, Windows: []int{8}, Weights: []int{100}}, Solver: fine},
	}
	for _, plan := range badPlans() {
		bad = append(bad, impl.Getting{Plan: plan, Solver: fine}, impl.Getting{Plan: plan}, impl.Getting{Plan: plan, Solver: impl.SolverNew(1, 8)})
	}
	for _, solver := range badSolvers() {
		bad = append(bad, impl.Getting{Plan: impl.Plan{Long: 8, Size: 2, Windows: []int{4}, Weights: []int{1}}, Solver: solver})
	}
	return bad
}

func TestGetNew(t *testing.T) {
	r := newSource(61)
	plans := append(edgePlans(), somePlan(r), somePlan(r), impl.PlanFor(1), impl.PlanFor(300))
	for _, p := range plans {
		g := impl.GetNew(p)
		if !samePlan(g.Plan, p) || !sameSolver(g.Solver, impl.SolverNew(blocksFor(p.Long, p.Size), p.Size)) || g.Solver.Count == 0 || !impl.GetOk(g) {
			t.Errorf("GetNew of %#v is %#v", p, g)
		}
		if impl.GetWindows(g) != 0 || impl.GetText(g) != "" || impl.GetDone(g) || impl.GetWant(g, 0) != 0 || impl.GetWant(g, impl.IdMax) != impl.IdMax {
			t.Errorf("GetNew of %#v knows something", p)
		}
	}
	for _, p := range badPlans() {
		if g := impl.GetNew(p); !sameGetting(g, impl.Getting{}) {
			t.Errorf("GetNew of %#v is %#v", p, g)
		}
	}
}

func TestGettingsThatAreNotOk(t *testing.T) {
	for _, g := range badGettings(t) {
		if impl.GetOk(g) || impl.GetWindows(g) != 0 || impl.GetText(g) != "" || impl.GetDone(g) {
			t.Errorf("%#v: GetOk is %#v, GetWindows %d, GetText %q, GetDone %#v", g, impl.GetOk(g), impl.GetWindows(g), impl.GetText(g), impl.GetDone(g))
		}
		for _, id := range []int{-1, 0, 1, 8, 100, impl.IdMax, impl.IdMax + 1, tooBig, tooSmall} {
			if got := impl.GetWant(g, id); got != -1 {
				t.Errorf("GetWant of %#v and %d is %d", g, id, got)
			}
			for _, data := range []string{"", "\x00", "ab", noughts(8), noughts(16)} {
				if got, code := impl.GetAdd(g, id, data); code != impl.SolveBad || !sameGetting(got, impl.Getting{}) {
					t.Errorf("GetAdd of %d %q to %#v is %#v %d", id, data, g, got, code)
				}
			}
		}
	}
}

// A getting whose equations say all, but that is of another plan, is not ok either.
func TestAFullSolverOfAnotherPlan(t *testing.T) {
	text := strings.Repeat("abc", 20)
	g := impl.GetNew(impl.PlanFor(60))
	for id := range 8 {
		g = mustGet(t, g, text, id)
	}
	for _, p := range []impl.Plan{impl.PlanFor(56), impl.PlanFor(65), impl.PlanFor(300), {Long: 56, Size: 7, Windows: []int{8}, Weights: []int{1}}, {Long: 60, Size: 9, Windows: []int{7}, Weights: []int{1}}} {
		other := impl.Getting{Plan: p, Solver: g.Solver}
		if impl.GetOk(other) || impl.GetDone(other) || impl.GetText(other) != "" || impl.GetWindows(other) != 0 {
			t.Errorf("GetOk of %#v", other)
		}
	}
	// Of the same blocks, but with other windows, or another length, it is.
	for _, p := range []impl.Plan{impl.PlanFor(64), impl.PlanFor(57), {Long: 60, Size: 8, Windows: []int{1, 7, 8}, Weights: []int{1, 2, 3}}} {
		other := impl.Getting{Plan: p, Solver: g.Solver}
		if !impl.GetOk(other) || !impl.GetDone(other) || impl.GetWindows(other) != len(p.Windows) || impl.GetText(other) != (text + noughts(8))[:p.Long] {
			t.Errorf("%#v: GetText is %q", other, impl.GetText(other))
		}
	}
}

func TestWhatIsNoSymbolLeavesAGetting(t *testing.T) {
	text := strings.Repeat("abc", 20)
	g := mustGet(t, mustGet(t, impl.GetNew(impl.PlanFor(60)), text, 0), text, 9)
	for _, id := range []int{-1, -2, -10000, impl.IdMax + 1, impl.IdMax + 2, tooBig, tooSmall} {
		for _, data := range []string{"", noughts(8), noughts(7), "abcabcab"} {
			if got, code := impl.GetAdd(g, id, data); code != impl.SolveBad || !sameGetting(got, g) {
				t.Errorf("GetAdd of %d %q is %#v %d", id, data, got, code)
			}
		}
	}
	for _, id := range []int{0, 1, 7, 8, 9, 20, impl.IdMax} {
		for _, data := range []string{"", "a", noughts(7), noughts(9), noughts(16), noughts(17), strings.Repeat("x", 1000)} {
			if got, code := impl.GetAdd(g, id, data); code != impl.SolveBad || !sameGetting(got, g) {
				t.Errorf("GetAdd of %d %q is %#v %d", id, data, got, code)
			}
		}
	}
}

func TestOtherDataLeaveAGetting(t *testing.T) {
	text := strings.Repeat("abc", 20)
	g := mustGet(t, impl.GetNew(impl.PlanFor(60)), text, 2)
	if got, code := impl.GetAdd(g, 2, "otherone"); code != impl.SolveWrong || !sameGetting(got, g) {
		t.Errorf("GetAdd of another block is %#v %d", got, code)
	}
	if got, code := impl.GetAdd(g, 2, mustSymbol(t, g.Plan, text, 2)); code != impl.SolveKnown || !sameGetting(got, g) {
		t.Errorf("GetAdd of the same block is %#v %d", got, code)
	}
}

// wantText is how a thing begins, by what was told of its blocks.
func wantText(p impl.Plan, all told) string {
	text := ""
	for at := 0; ; at++ {
		block, there := all[1<<at]
		if !there {
			break
		}
		text += block
	}
	return text[:min(len(text), p.Long)]
}

// wantWindows is how many windows have all their blocks told.
func wantWindows(p impl.Plan, all told) int {
	windows := 0
	for _, window := range p.Windows {
		whole := true
		for at := range window {
			_, there := all[1<<at]
			whole = whole && there
		}
		if whole {
			windows++
		}
	}
	return windows
}

// wantWant looks for a row that is not told, of a hundred.
func wantWant(p impl.Plan, all told, from int) int {
	for id := from; id <= 9999 && id <= from+99; id++ {
		if _, there := all[maskOf(wantRow(p, id))]; !there {
			return id
		}
	}
	return -1
}

// Each step is held against all that was told, with symbols of any thing.
func TestP19AllThatWasToldIsKnown(t *testing.T) {
	r := newSource(62)
	for range 50 {
		p := smallPlan(r)
		texts := []string{someText(r, p.Long), someText(r, p.Long)}
		g, all := impl.GetNew(p), newTold(p.Size)
		for range 14 {
			id := someId(r, p)
			data := mustSymbol(t, p, texts[0], id)
			if r.Intn(8) == 0 {
				data = mustSymbol(t, p, texts[1], id)
			}
			want := all.add(wantRow(p, id), data)
			next, code := impl.GetAdd(g, id, data)
			if code != want || code != impl.SolveNew && !sameGetting(next, g) || !samePlan(next.Plan, p) {
				t.Fatalf("GetAdd of %d %q to %#v is %#v %d, not %d", id, data, g, next, code, want)
			}
			g = next
			checkSolver(t, g.Solver, all)
			checkGetting(t, g, all)
		}
	}
}

// checkGetting holds what is known against all that was told.
func checkGetting(t *testing.T, g impl.Getting, all told) {
	t.Helper()
	if !impl.GetOk(g) || impl.GetText(g) != wantText(g.Plan, all) || impl.GetWindows(g) != wantWindows(g.Plan, all) {
		t.Fatalf("%#v: GetText is %q, not %q, GetWindows %d, not %d", g, impl.GetText(g), wantText(g.Plan, all), impl.GetWindows(g), wantWindows(g.Plan, all))
	}
	if impl.GetDone(g) != (all.rank() == impl.PlanCount(g.Plan)) {
		t.Fatalf("GetDone of %#v is %#v", g, impl.GetDone(g))
	}
	for _, from := range []int{0, 1, 3, 6, 50, 5000, 9898, 9899, 9900, 9901, 9998, 9999} {
		if got := impl.GetWant(g, from); got != wantWant(g.Plan, all, from) {
			t.Fatalf("GetWant of %#v and %d is %d, not %d", g, from, got, wantWant(g.Plan, all, from))
		}
	}
}

func TestP19WhatIsKnownIsHowItBegins(t *testing.T) {
	r := newSource(63)
	for range 60 {
		p := somePlan(r)
		text := someText(r, p.Long)
		g := impl.GetNew(p)
		for step := 0; step < 400 && !impl.GetDone(g); step++ {
			g = mustGet(t, g, text, someId(r, p))
			if got := impl.GetText(g); !strings.HasPrefix(text, got) {
				t.Fatalf("GetText of %#v is %q, of %q", g, got, text)
			}
		}
		if !impl.GetDone(g) || impl.GetText(g) != text || impl.GetWindows(g) != len(p.Windows) {
			t.Fatalf("%#v behind all symbols: GetText is %q, not %q", g, impl.GetText(g), text)
		}
	}
}

// Of the last block nothing but what is of the thing is told, be it noughts or not.
func TestP19TheLastBlock(t *testing.T) {
	for _, text := range []string{"abcdefgh", "abcdefghi", "abcdefg", "abcdefghijklmnop", "abcdefghijklmno", "\x00\x00\x00\x00\x00\x00\x00\x00\x00", "abcdefgh\x00", "a"} {
		g := impl.GetNew(impl.PlanFor(len(text)))
		count := impl.PlanCount(g.Plan)
		for id := range count {
			if impl.GetDone(g) || impl.GetText(g) != text[:8*id] {
				t.Errorf("of %q behind %d symbols %q is known", text, id, impl.GetText(g))
			}
			g = mustGet(t, g, text, id)
		}
		if !impl.GetDone(g) || impl.GetText(g) != text {
			t.Errorf("of %q %q is known", text, impl.GetText(g))
		}
	}
}

func TestP20TheFirstSymbolsAlone(t *testing.T) {
	r := newSource(64)
	plans := edgePlans()
	for range 100 {
		plans = append(plans, somePlan(r), impl.PlanFor(1+r.Intn(300)))
	}
	for _, p := range plans {
		text := someText(r, p.Long)
		g := impl.GetNew(p)
		count := impl.PlanCount(p)
		for id := range count {
			next, code := impl.GetAdd(g, id, mustSymbol(t, p, text, id))
			if code != impl.SolveNew {
				t.Fatalf("GetAdd of %d is %d", id, code)
			}
			g = next
			windows := 0
			for windows < len(p.Windows) && p.Windows[windows] <= id+1 {
				windows++
			}
			if impl.GetWindows(g) != windows || impl.GetDone(g) != (id == count-1) || impl.GetText(g) != text[:min((id+1)*p.Size, p.Long)] {
				t.Fatalf("%#v behind %d symbols: GetWindows is %d, GetDone %#v, GetText %q", p, id+1, impl.GetWindows(g), impl.GetDone(g), impl.GetText(g))
			}
		}
	}
}

// A window is known with its last block, whichever block comes last.
func TestP20AWindowEndsWithABlock(t *testing.T) {
	p := impl.Plan{Long: 11, Size: 2, Windows: []int{2, 4, 6}, Weights: []int{1, 1, 1}}
	text := "hello world"
	for _, c := range []struct {
		ids  []int
		want []int
	}{
		{[]int{0, 1, 2, 3, 4, 5}, []int{0, 1, 1, 2, 2, 3}},
		{[]int{5, 4, 3, 2, 1, 0}, []int{0, 0, 0, 0, 0, 3}},
		{[]int{1, 3, 0, 5, 2, 4}, []int{0, 0, 1, 1, 2, 3}},
		{[]int{2, 3, 1, 0, 5, 4}, []int{0, 0, 0, 2, 2, 3}},
	} {
		g := impl.GetNew(p)
		for i, id := range c.ids {
			g = mustGet(t, g, text, id)
			if got := impl.GetWindows(g); got != c.want[i] {
				t.Errorf("behind %v GetWindows is %d, not %d", c.ids[:i+1], got, c.want[i])
			}
		}
	}
}

func TestP21WhatIsLearntStaysKnown(t *testing.T) {
	r := newSource(65)
	for range 120 {
		p := somePlan(r)
		texts := []string{someText(r, p.Long), someText(r, p.Long)}
		g := impl.GetNew(p)
		for range 40 {
			// Also what is told wrongly, or is no symbol, takes nothing away.
			id := someId(r, p) - 2 + r.Intn(5)
			data, _ := impl.PlanSymbol(p, texts[max(0, r.Intn(6)-4)], id)
			next, code := impl.GetAdd(g, id, data)
			if (code == impl.SolveBad) != (id < 0 || id > impl.IdMax) {
				t.Fatalf("GetAdd of %d is %d", id, code)
			}
			if !strings.HasPrefix(impl.GetText(next), impl.GetText(g)) || impl.GetWindows(next) < impl.GetWindows(g) || impl.GetDone(g) && !impl.GetDone(next) {
				t.Fatalf("behind GetAdd of %d to %#v less is known: %#v", id, g, next)
			}
			g = next
		}
	}
}

func TestP22ASymbolThatIsWantedTellsMore(t *testing.T) {
	r := newSource(66)
	for range 200 {
		p := somePlan(r)
		text := someText(r, p.Long)
		g := someGetting(t, r, p, text)
		from := []int{0, r.Intn(30), r.Intn(impl.IdMax + 1), impl.IdMax - r.Intn(120)}[r.Intn(4)]
		id := impl.GetWant(g, from)
		end := id
		if id == -1 {
			end = min(from+100, impl.IdMax+1)
		} else if id < from || id > impl.IdMax || id > from+99 {
			t.Fatalf("GetWant from %d on is %d", from, id)
		}
		for ahead := from; ahead < end; ahead++ {
			if _, said := impl.SolverSays(g.Solver, impl.PlanRow(p, ahead)); !said {
				t.Fatalf("GetWant from %d on is %d, but nothing is said of %d", from, id, ahead)
			}
		}
		if id >= 0 {
			if _, code := impl.GetAdd(g, id, mustSymbol(t, p, text, id)); code != impl.SolveNew {
				t.Fatalf("GetAdd of GetWant, %d, is %d", id, code)
			}
		}
	}
}

// What is wanted, one by one, leads to all in as many symbols as there are blocks, from wherever.
func TestP22WhatIsWantedLeadsToAll(t *testing.T) {
	r := newSource(67)
	for _, start := range []int{0, 1, 30, 5000} {
		p := impl.PlanFor(200)
		text := someText(r, 200)
		g := impl.GetNew(p)
		from := start
		for range impl.PlanCount(p) {
			id := impl.GetWant(g, from)
			for id == -1 && from < 9000 {
				from += 100
				id = impl.GetWant(g, from)
			}
			next, code := impl.GetAdd(g, id, mustSymbol(t, p, text, id))
			if code != impl.SolveNew {
				t.Fatalf("GetAdd of %d is %d", id, code)
			}
			g, from = next, id
		}
		if !impl.GetDone(g) || impl.GetText(g) != text || impl.GetWant(g, 0) != -1 || impl.GetWant(g, impl.IdMax) != -1 {
			t.Errorf("from %d on %q is known", start, impl.GetText(g))
		}
	}
}

func TestP22WantAtTheEdges(t *testing.T) {
	text := strings.Repeat("abc", 20)
	fresh := impl.GetNew(impl.PlanFor(60))
	g := mustGet(t, mustGet(t, fresh, text, 0), text, 1)
	for _, from := range []int{-1, -2, -99, -100, -101, impl.IdMax + 1, impl.IdMax + 2, tooBig, tooBig - 99, tooSmall} {
		if impl.GetWant(g, from) != -1 || impl.GetWant(fresh, from) != -1 {
			t.Errorf("GetWant from %d on is %d", from, impl.GetWant(g, from))
		}
	}
	if got := impl.GetWant(g, 0); got != 2 {
		t.Errorf("GetWant from 0 on is %d", got)
	}
	if impl.GetWant(fresh, impl.IdMax) != impl.IdMax || impl.GetWant(fresh, impl.IdMax-1) != impl.IdMax-1 {
		t.Errorf("GetWant from IdMax on is %d", impl.GetWant(fresh, impl.IdMax))
	}
}

// seldomGetting knows the first two blocks, of a plan that seldom tells another one; and the numbers that would tell more.
func seldomGetting(t *testing.T) (impl.Getting, []int) {
	t.Helper()
	p := impl.Plan{Long: 24, Size: 1, Windows: []int{1, 2, 24}, Weights: []int{99, 99, 1}}
	text := "abcdefghijklmnopqrstuvwx"
	g := mustGet(t, mustGet(t, impl.GetNew(p), text, 0), text, 1)
	var wanted []int
	for id := range impl.IdMax + 1 {
		if row := wantRow(p, id); row[len(row)-1] > 1 {
			wanted = append(wanted, id)
		}
	}
	return g, wanted
}

// Where the next one that tells more is a hundred numbers on, it is not seen; one number later it is.
func TestP22WhereNoneOfAHundredTellsMore(t *testing.T) {
	g, wanted := seldomGetting(t)
	tried := 0
	for i := 1; i < len(wanted); i++ {
		if wanted[i]-wanted[i-1] <= 101 {
			continue
		}
		tried++
		id := wanted[i]
		for _, from := range []int{id - 101, id - 100} {
			if got := impl.GetWant(g, from); got != -1 {
				t.Fatalf("GetWant from %d on is %d", from, got)
			}
		}
		for _, from := range []int{id - 99, id - 98, id - 1, id} {
			if got := impl.GetWant(g, from); got != id {
				t.Fatalf("GetWant from %d on is %d, not %d", from, got, id)
			}
		}
	}
	if tried < 10 {
		t.Errorf("only %d gaps of more than a hundred", tried)
	}
}

// Behind the last one that tells more there is none, as nothing is behind IdMax.
func TestP22NothingIsWantedBehindIdMax(t *testing.T) {
	g, wanted := seldomGetting(t)
	last := wanted[len(wanted)-1]
	if last == impl.IdMax {
		t.Fatal("IdMax itself tells more")
	}
	for from := last + 1; from <= impl.IdMax; from++ {
		if got := impl.GetWant(g, from); got != -1 {
			t.Fatalf("GetWant from %d on is %d", from, got)
		}
	}
	// And where all numbers up to IdMax are of the first block, those behind it need not be.
	p := impl.Plan{Long: 2, Size: 1, Windows: []int{1, 2}, Weights: []int{1, 1}}
	first := mustGet(t, impl.GetNew(p), "ab", 0)
	for from := impl.IdMax; slices.Equal(wantRow(p, from), []int{0}); from-- {
		if got := impl.GetWant(first, from); got != -1 {
			t.Fatalf("GetWant from %d on is %d", from, got)
		}
	}
}
