package tests

import (
	"math/rand"
	"slices"
	"testing"

	"loop.example/wellhead/impl"
)

// maskOf is a row as bits.
func maskOf(row []int) int {
	mask := 0
	for _, n := range row {
		mask |= 1 << n
	}
	return mask
}

// rowOf is bits as a row.
func rowOf(mask int) []int {
	var row []int
	for n := range impl.RowMax {
		if mask>>n&1 == 1 {
			row = append(row, n)
		}
	}
	return row
}

// mixed is two blocks of one size, byte by byte exclusive or.
func mixed(a string, b string) string {
	out := []byte(a)
	for i := range out {
		out[i] ^= b[i]
	}
	return string(out)
}

// told is all that equations say together, row by row, worked out by trying each choice of them.
type told map[int]string

func newTold(size int) told {
	return told{0: noughts(size)}
}

// add takes an equation in, and is the code that it should have.
func (s told) add(row []int, data string) int {
	mask := maskOf(row)
	if was, there := s[mask]; there {
		if was == data {
			return impl.SolveKnown
		}
		return impl.SolveWrong
	}
	more := told{}
	for m, d := range s {
		more[m^mask] = mixed(d, data)
	}
	for m, d := range more {
		s[m] = d
	}
	return impl.SolveNew
}

// rank is how many of the equations said something new.
func (s told) rank() int {
	rank := 0
	for 1<<rank < len(s) {
		rank++
	}
	return rank
}

// hasForm says whether a solver is as chapter 3 has it, written out plainly.
func hasForm(s impl.Solver) bool {
	if s.Count < 1 || s.Count > 24 || s.Size < 1 || s.Size > 16 {
		return false
	}
	for i, eq := range s.Eqs {
		if len(eq.Row) == 0 || !slices.IsSorted(eq.Row) || eq.Row[0] < 0 || eq.Row[len(eq.Row)-1] >= s.Count || len(eq.Data) != s.Size {
			return false
		}
		for j, other := range s.Eqs {
			if i != j && slices.Contains(eq.Row, other.Row[0]) || i < j && eq.Row[0] >= other.Row[0] {
				return false
			}
		}
	}
	return true
}

// checkSolver holds a solver against all that was told to it.
func checkSolver(t *testing.T, s impl.Solver, all told) {
	t.Helper()
	if !hasForm(s) || !impl.SolverOk(s) || impl.SolverRank(s) != all.rank() {
		t.Fatalf("%#v is not in its form, or not of rank %d", s, all.rank())
	}
	for mask := range 1 << s.Count {
		want, there := all[mask]
		if got, ok := impl.SolverSays(s, rowOf(mask)); got != want || ok != there {
			t.Fatalf("SolverSays of %#v is %q %#v, not %q %#v", rowOf(mask), got, ok, want, there)
		}
	}
	prefix := 0
	for at := range s.Count {
		want, there := all[1<<at]
		if got, ok := impl.SolverGet(s, at); got != want || ok != there {
			t.Fatalf("SolverGet of %d in %#v is %q %#v", at, s, got, ok)
		}
		if there && prefix == at {
			prefix++
		}
	}
	if got := impl.SolverPrefix(s); got != prefix {
		t.Fatalf("SolverPrefix of %#v is %d, not %d", s, got, prefix)
	}
}

// someEq draws an equation: mostly one that fits the blocks, at times any other.
func someEq(r *rand.Rand, blocks []string) impl.Eq {
	row := someRow(r, len(blocks))
	data, _ := impl.RowSum(blocks, row)
	if r.Intn(6) == 0 {
		data = someBlock(r, len(blocks[0]))
	}
	return impl.Eq{Row: row, Data: data}
}

// someSolver draws a solver that has learnt some equations that fit the blocks.
func someSolver(t *testing.T, r *rand.Rand, blocks []string) impl.Solver {
	t.Helper()
	s := impl.SolverNew(len(blocks), len(blocks[0]))
	for range r.Intn(len(blocks) + 3) {
		row := someRow(r, len(blocks))
		data, _ := impl.RowSum(blocks, row)
		next, code := impl.SolverAdd(s, row, data)
		if code != impl.SolveNew && code != impl.SolveKnown {
			t.Fatalf("SolverAdd of what fits is %d", code)
		}
		s = next
	}
	return s
}

func TestSolverNew(t *testing.T) {
	for _, c := range [][2]int{{1, 1}, {1, 16}, {24, 1}, {24, 16}, {10, 8}} {
		if s := impl.SolverNew(c[0], c[1]); s.Count != c[0] || s.Size != c[1] || len(s.Eqs) != 0 || !impl.SolverOk(s) {
			t.Errorf("SolverNew of %#v is %#v", c, s)
		}
	}
	for _, c := range [][2]int{{0, 1}, {-1, 1}, {25, 1}, {1, 0}, {1, -1}, {1, 17}, {0, 0}, {25, 17}, {tooBig, 4}, {4, tooBig}, {tooSmall, 4}, {4, tooSmall}} {
		if s := impl.SolverNew(c[0], c[1]); !sameSolver(s, impl.Solver{}) {
			t.Errorf("SolverNew of %#v is %#v", c, s)
		}
	}
}

// badSolvers are not ok, each in one way.
func badSolvers() []impl.Solver {
	eq := func(data string, row ...int) impl.Eq { return impl.Eq{Row: row, Data: data} }
	bad := []impl.Solver{
		{}, {Count: 0, Size: 2}, {Count: -1, Size: 2}, {Count: 25, Size: 2}, {Count: 4, Size: 0}, {Count: 4, Size: -1}, {Count: 4, Size: 17},
		{Count: tooBig, Size: 2}, {Count: 4, Size: tooBig}, {Count: tooSmall, Size: 2}, {Count: 4, Size: tooSmall},
	}
	for _, eqs := range [][]impl.Eq{
		{eq("ab")}, {eq("ab", 4)}, {eq("ab", -1)}, {eq("ab", 1, 0)}, {eq("ab", 1, 1)}, {eq("ab", 0, 4)}, {eq("ab", tooBig)}, {eq("ab", tooSmall)},
		{eq("a", 0)}, {eq("abc", 0)}, {eq("", 0)}, {eq("ab", 0), eq("a", 1)}, {eq("ab", 0), eq("ab")}, {eq("ab"), eq("ab", 0)},
		{eq("ab", 1), eq("ab", 0)}, {eq("ab", 1), eq("ab", 1)}, {eq("ab", 1, 2), eq("ab", 1, 3)}, {eq("ab", 0), eq("ab", 2), eq("ab", 1)},
		{eq("ab", 0, 1), eq("ab", 1)}, {eq("ab", 0, 2), eq("ab", 1), eq("ab", 2, 3)}, {eq("ab", 0, 3), eq("ab", 1, 2), eq("ab", 3)},
		{eq("ab", 2), eq("ab", 0, 2)}, {eq("ab", 0), eq("ab", 0, 1)}, {eq("ab", 1), eq("ab", 0, 3)},
		{eq("ab", 0), eq("ab", 1), eq("ab", 2), eq("ab", 3), eq("ab", 3)},
	} {
		bad = append(bad, impl.Solver{Count: 4, Size: 2, Eqs: eqs})
	}
	// What would be ok, were its sizes.
	return append(bad, impl.Solver{Count: 25, Size: 2, Eqs: []impl.Eq{eq("ab", 0)}}, impl.Solver{Count: 4, Size: 17, Eqs: []impl.Eq{eq(noughts(17), 0)}},
		impl.Solver{Count: 25, Size: 1, Eqs: []impl.Eq{eq("a", 24)}})
}

func TestSolverOk(t *testing.T) {
	good := []impl.Solver{
		{Count: 1, Size: 1}, {Count: 24, Size: 16}, {Count: 4, Size: 2, Eqs: []impl.Eq{}},
		{Count: 1, Size: 1, Eqs: []impl.Eq{{Row: []int{0}, Data: "a"}}},
		{Count: 24, Size: 16, Eqs: []impl.Eq{{Row: []int{0, 23}, Data: noughts(16)}, {Row: []int{22, 23}, Data: noughts(16)}}},
		{Count: 4, Size: 2, Eqs: []impl.Eq{{Row: []int{0, 2}, Data: "ab"}, {Row: []int{1, 2}, Data: "cd"}, {Row: []int{3}, Data: "ef"}}},
		{Count: 4, Size: 2, Eqs: []impl.Eq{{Row: []int{3}, Data: "ef"}}},
	}
	for _, s := range good {
		if !impl.SolverOk(s) || impl.SolverRank(s) != len(s.Eqs) {
			t.Errorf("SolverOk of %#v is false, or SolverRank is %d", s, impl.SolverRank(s))
		}
	}
	for _, s := range badSolvers() {
		if impl.SolverOk(s) {
			t.Errorf("SolverOk of %#v", s)
		}
	}
}

// SolverOk is tried on all that two equations of three blocks can be.
func TestSolverOkOfAllSmallOnes(t *testing.T) {
	for a := range 16 {
		for b := range 16 {
			s := impl.Solver{Count: 3, Size: 1, Eqs: []impl.Eq{{Row: rowOf(a), Data: "x"}, {Row: rowOf(b), Data: "y"}}}
			want := a != 0 && b != 0 && hasForm(s)
			if impl.SolverOk(s) != want {
				t.Errorf("SolverOk of %#v is not %#v", s, want)
			}
		}
	}
}

func TestSolversThatAreNotOk(t *testing.T) {
	fine := mustAdd(t, impl.SolverNew(4, 2), []int{0}, "ab")
	for _, s := range badSolvers() {
		for _, row := range [][]int{nil, {0}, {1, 2}, {-1}, {24}} {
			for _, data := range []string{"", "\x00", "ab"} {
				if got, code := impl.SolverAdd(s, row, data); code != impl.SolveBad || !sameSolver(got, impl.Solver{}) {
					t.Errorf("SolverAdd of %v %q to %#v is %#v %d", row, data, s, got, code)
				}
			}
			if got, ok := impl.SolverSays(s, row); got != "" || ok {
				t.Errorf("SolverSays of %#v is %q %#v", s, got, ok)
			}
		}
		for _, at := range []int{-1, 0, 1, 3, 4, tooBig, tooSmall} {
			if got, ok := impl.SolverGet(s, at); got != "" || ok {
				t.Errorf("SolverGet of %#v is %q %#v", s, got, ok)
			}
		}
		if impl.SolverRank(s) != 0 || impl.SolverPrefix(s) != 0 {
			t.Errorf("SolverRank of %#v is %d, SolverPrefix %d", s, impl.SolverRank(s), impl.SolverPrefix(s))
		}
		for _, pair := range [][2]impl.Solver{{s, fine}, {fine, s}, {s, s}} {
			if got, ok := impl.SolverJoin(pair[0], pair[1]); ok || !sameSolver(got, impl.Solver{}) {
				t.Errorf("SolverJoin of %#v is %#v %#v", pair, got, ok)
			}
		}
	}
}

func TestWhatIsNoEquationLeavesASolver(t *testing.T) {
	s := mustAdd(t, mustAdd(t, impl.SolverNew(4, 2), []int{0, 2}, "ab"), []int{1}, "cd")
	cases := []impl.Eq{
		{Row: []int{4}, Data: "ab"}, {Row: []int{-1}, Data: "ab"}, {Row: []int{1, 0}, Data: "ab"}, {Row: []int{2, 2}, Data: "ab"}, {Row: []int{0, 4}, Data: "ab"},
		{Row: []int{tooBig}, Data: "ab"}, {Row: []int{tooSmall}, Data: "ab"},
		{Row: []int{2}, Data: "a"}, {Row: []int{2}, Data: ""}, {Row: []int{2}, Data: "abc"}, {Row: nil, Data: ""}, {Row: nil, Data: "\x00"}, {Row: nil, Data: "\x00\x00\x00"}, {Row: []int{4}, Data: "a"},
	}
	for _, c := range cases {
		if got, code := impl.SolverAdd(s, c.Row, c.Data); code != impl.SolveBad || !sameSolver(got, s) {
			t.Errorf("SolverAdd of %#v is %#v %d", c, got, code)
		}
	}
	for _, row := range [][]int{{4}, {-1}, {1, 0}, {2, 2}, {0, 2, 4}, {tooBig}, {tooSmall}} {
		if got, ok := impl.SolverSays(s, row); got != "" || ok {
			t.Errorf("SolverSays of %#v is %q %#v", row, got, ok)
		}
	}
	for _, at := range []int{-1, 0, 2, 3, 4, 24, 32, 64, tooBig, tooSmall} {
		if got, ok := impl.SolverGet(s, at); got != "" || ok {
			t.Errorf("SolverGet of %d is %q %#v", at, got, ok)
		}
	}
}

func TestTheEmptyRow(t *testing.T) {
	for _, s := range []impl.Solver{impl.SolverNew(1, 1), impl.SolverNew(24, 16), mustAdd(t, impl.SolverNew(3, 2), []int{0, 1}, "ab")} {
		for _, row := range [][]int{nil, {}} {
			if got, code := impl.SolverAdd(s, row, noughts(s.Size)); code != impl.SolveKnown || !sameSolver(got, s) {
				t.Errorf("SolverAdd of noughts is %#v %d", got, code)
			}
			data := []byte(noughts(s.Size))
			data[s.Size-1] = 1
			if got, code := impl.SolverAdd(s, row, string(data)); code != impl.SolveWrong || !sameSolver(got, s) {
				t.Errorf("SolverAdd of %q is %#v %d", data, got, code)
			}
			if got, ok := impl.SolverSays(s, row); got != noughts(s.Size) || !ok {
				t.Errorf("SolverSays of nothing is %q %#v", got, ok)
			}
		}
	}
}

func TestOneBlock(t *testing.T) {
	s := mustAdd(t, impl.SolverNew(1, 1), []int{0}, "a")
	if got, ok := impl.SolverGet(s, 0); got != "a" || !ok || impl.SolverPrefix(s) != 1 || impl.SolverRank(s) != 1 {
		t.Errorf("%#v after one block", s)
	}
	if _, code := impl.SolverAdd(s, []int{0}, "a"); code != impl.SolveKnown {
		t.Errorf("the same again is %d", code)
	}
	if _, code := impl.SolverAdd(s, []int{0}, "b"); code != impl.SolveWrong {
		t.Errorf("another block is %d", code)
	}
}

// Each step is held against all that was told, so this is P5, and much of P8 and P9.
func TestP5WhatIsLearntIsKnown(t *testing.T) {
	r := newSource(21)
	for range 150 {
		blocks := someBlocks(r, 1+r.Intn(6), 1+r.Intn(2))
		s, all := impl.SolverNew(len(blocks), len(blocks[0])), newTold(len(blocks[0]))
		for range 9 {
			s = checkAdd(t, s, all, someEq(r, blocks))
		}
	}
}

// checkAdd learns an equation, and looks at all that is said ahead and behind.
func checkAdd(t *testing.T, s impl.Solver, all told, eq impl.Eq) impl.Solver {
	t.Helper()
	was, there := impl.SolverSays(s, eq.Row)
	want := all.add(eq.Row, eq.Data)
	next, code := impl.SolverAdd(s, eq.Row, eq.Data)
	if code != want || (code == impl.SolveNew) == there {
		t.Fatalf("SolverAdd of %#v to %#v is %d, not %d", eq, s, code, want)
	}
	if code != impl.SolveNew && !sameSolver(next, s) {
		t.Fatalf("SolverAdd of %#v with %d makes %#v of %#v", eq, code, next, s)
	}
	is, ok := impl.SolverSays(next, eq.Row)
	if code == impl.SolveWrong && (is != was || is == eq.Data || !ok) {
		t.Fatalf("behind SolveWrong %#v is said to be %q", eq, is)
	}
	if code != impl.SolveWrong && (is != eq.Data || !ok) {
		t.Fatalf("behind SolverAdd %#v is said to be %q %#v", eq, is, ok)
	}
	for _, old := range s.Eqs {
		if got, ok := impl.SolverSays(next, old.Row); got != old.Data || !ok {
			t.Fatalf("behind SolverAdd %#v is said to be %q %#v", old, got, ok)
		}
	}
	checkSolver(t, next, all)
	return next
}

func TestP5AtTheLimits(t *testing.T) {
	r := newSource(22)
	blocks := someBlocks(r, impl.RowMax, impl.BlockMax)
	s := impl.SolverNew(impl.RowMax, impl.BlockMax)
	for range 200 {
		row := someRow(r, impl.RowMax)
		data, _ := impl.RowSum(blocks, row)
		_, there := impl.SolverSays(s, row)
		next, code := impl.SolverAdd(s, row, data)
		if code > impl.SolveKnown || (code == impl.SolveNew) == there || !hasForm(next) {
			t.Fatalf("SolverAdd of %#v to %#v is %d", row, s, code)
		}
		s = next
	}
	if impl.SolverRank(s) != impl.RowMax || impl.SolverPrefix(s) != impl.RowMax {
		t.Errorf("SolverRank is %d, SolverPrefix %d", impl.SolverRank(s), impl.SolverPrefix(s))
	}
	for at, block := range blocks {
		if got, ok := impl.SolverGet(s, at); got != block || !ok {
			t.Errorf("SolverGet of %d is %q %#v", at, got, ok)
		}
	}
}

// A first number that another row has goes out of that one.
func TestP5AFirstNumberThatAnotherRowHas(t *testing.T) {
	s := mustAdd(t, impl.SolverNew(4, 1), []int{0, 2, 3}, "\x07")
	s = mustAdd(t, s, []int{1, 2}, "\x01")
	s = mustAdd(t, s, []int{2, 3}, "\x02")
	want := []impl.Eq{{Row: []int{0}, Data: "\x05"}, {Row: []int{1, 3}, Data: "\x03"}, {Row: []int{2, 3}, Data: "\x02"}}
	if !sameEqs(s.Eqs, want) {
		t.Errorf("%#v, not %#v", s.Eqs, want)
	}
}

func TestP6TheOrderDoesNotMatter(t *testing.T) {
	r := newSource(23)
	for range 1000 {
		blocks := someBlocks(r, 1+r.Intn(impl.RowMax), 1+r.Intn(impl.BlockMax))
		s := someSolver(t, r, blocks)
		a, b := someEq(r, blocks), someEq(r, blocks)
		one, codeA := impl.SolverAdd(s, a.Row, a.Data)
		one, codeB := impl.SolverAdd(one, b.Row, b.Data)
		if codeA == impl.SolveWrong || codeB == impl.SolveWrong {
			continue
		}
		other, codeB := impl.SolverAdd(s, b.Row, b.Data)
		other, codeA = impl.SolverAdd(other, a.Row, a.Data)
		if codeA == impl.SolveWrong || codeB == impl.SolveWrong || !sameSolver(one, other) {
			t.Fatalf("%#v and %#v learnt by %#v make %#v or %#v", a, b, s, one, other)
		}
	}
}

func TestP7NothingIsKnownThatWasNotTold(t *testing.T) {
	r := newSource(24)
	for range 300 {
		blocks := someBlocks(r, 1+r.Intn(impl.RowMax), 1+r.Intn(impl.BlockMax))
		s := someSolver(t, r, blocks)
		anew := impl.SolverNew(s.Count, s.Size)
		for _, eq := range slices.Backward(s.Eqs) {
			anew = mustAdd(t, anew, eq.Row, eq.Data)
		}
		for _, eq := range s.Eqs {
			if _, code := impl.SolverAdd(anew, eq.Row, eq.Data); code != impl.SolveKnown {
				t.Fatalf("SolverAdd of %#v once more is %d", eq, code)
			}
		}
		if !sameSolver(anew, s) {
			t.Fatalf("%#v learnt anew is %#v", s, anew)
		}
	}
}

func TestP8ABlockIsKnownIfAllSaysIt(t *testing.T) {
	r := newSource(25)
	for range 400 {
		blocks := someBlocks(r, 1+r.Intn(impl.RowMax), 1+r.Intn(impl.BlockMax))
		s := someSolver(t, r, blocks)
		prefix := 0
		for at := range s.Count {
			got, ok := impl.SolverGet(s, at)
			said, isSaid := impl.SolverSays(s, []int{at})
			if got != said || ok != isSaid || ok && got != blocks[at] {
				t.Fatalf("SolverGet of %d in %#v is %q %#v, SolverSays %q %#v", at, s, got, ok, said, isSaid)
			}
			if ok && prefix == at {
				prefix++
			}
		}
		if impl.SolverPrefix(s) != prefix || impl.SolverRank(s) == s.Count && prefix != s.Count {
			t.Fatalf("SolverPrefix of %#v is %d", s, impl.SolverPrefix(s))
		}
	}
}

func TestP8PrefixStopsAtAGap(t *testing.T) {
	s := impl.SolverNew(4, 1)
	for _, c := range []struct {
		row  []int
		want int
	}{{[]int{1}, 0}, {[]int{3}, 0}, {[]int{0, 2}, 0}, {[]int{2}, 4}} {
		s = mustAdd(t, s, c.row, "a")
		if got := impl.SolverPrefix(s); got != c.want {
			t.Errorf("SolverPrefix of %#v is %d, not %d", s, got, c.want)
		}
	}
}

func TestP9WhatIsSaidOfTwoRows(t *testing.T) {
	r := newSource(26)
	for range 2000 {
		blocks := someBlocks(r, 1+r.Intn(8), 1+r.Intn(impl.BlockMax))
		s := someSolver(t, r, blocks)
		a, b := someRow(r, s.Count), someRow(r, s.Count)
		dataA, okA := impl.SolverSays(s, a)
		dataB, okB := impl.SolverSays(s, b)
		data, ok := impl.SolverSays(s, impl.RowXor(a, b))
		if okA && okB && (!ok || data != mixed(dataA, dataB)) {
			t.Fatalf("%#v says %q of %#v, %q of %#v, and %q %#v of both", s, dataA, a, dataB, b, data, ok)
		}
		if okA != okB && (ok || data != "") {
			t.Fatalf("%#v says %q of %#v and %#v", s, data, a, b)
		}
	}
}

func TestP10WhatTwoKnowTogether(t *testing.T) {
	r := newSource(27)
	for range 300 {
		blocks := someBlocks(r, 1+r.Intn(5), 1+r.Intn(2))
		a, b := someSolver(t, r, blocks), someSolver(t, r, blocks)
		all := newTold(a.Size)
		for _, eq := range append(slices.Clone(a.Eqs), b.Eqs...) {
			all.add(eq.Row, eq.Data)
		}
		one, oneOk := impl.SolverJoin(a, b)
		other, otherOk := impl.SolverJoin(b, a)
		if !oneOk || !otherOk || !sameSolver(one, other) {
			t.Fatalf("SolverJoin of %#v and %#v is %#v or %#v", a, b, one, other)
		}
		checkSolver(t, one, all)
		for _, eq := range append(slices.Clone(a.Eqs), b.Eqs...) {
			if got, ok := impl.SolverSays(one, eq.Row); got != eq.Data || !ok {
				t.Fatalf("together they say %q %#v of %#v", got, ok, eq)
			}
		}
	}
}

func TestP10JoinOfOthers(t *testing.T) {
	s := mustAdd(t, mustAdd(t, impl.SolverNew(4, 2), []int{0, 1}, "ab"), []int{2}, "cd")
	wrong := mustAdd(t, impl.SolverNew(4, 2), []int{0, 1}, "xx")
	late := mustAdd(t, mustAdd(t, impl.SolverNew(4, 2), []int{0}, "ab"), []int{2}, "xx")
	for _, o := range []impl.Solver{impl.SolverNew(3, 2), impl.SolverNew(5, 2), impl.SolverNew(4, 1), impl.SolverNew(4, 3), wrong, late} {
		for _, pair := range [][2]impl.Solver{{s, o}, {o, s}} {
			if got, ok := impl.SolverJoin(pair[0], pair[1]); ok || !sameSolver(got, impl.Solver{}) {
				t.Errorf("SolverJoin of %#v is %#v %#v", pair, got, ok)
			}
		}
	}
	for _, pair := range [][2]impl.Solver{{s, s}, {s, impl.SolverNew(4, 2)}, {impl.SolverNew(4, 2), s}} {
		if got, ok := impl.SolverJoin(pair[0], pair[1]); !ok || !sameSolver(got, s) {
			t.Errorf("SolverJoin of %#v is %#v %#v", pair, got, ok)
		}
	}
}
