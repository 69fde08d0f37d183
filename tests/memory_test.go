package tests

import (
	"slices"
	"testing"

	"loop.example/wellhead/impl"
)

// mark stands in all spare room, to show what is written there.
const mark = -77

// roomy is a list with spare room behind its end, and the whole of it.
func roomy(list []int) ([]int, []int) {
	whole := slices.Concat(list, []int{mark, mark, mark, mark})
	return whole[:len(list)], whole
}

// spoil writes into all of a list that was answered, spare room included.
func spoil(list []int) {
	whole := list[:cap(list)]
	for i := range whole {
		whole[i] = 5555
	}
}

// spoilSolver writes into all lists of a solver that was answered.
func spoilSolver(s impl.Solver) {
	for _, eq := range s.Eqs {
		spoil(eq.Row)
	}
	whole := s.Eqs[:cap(s.Eqs)]
	for i := range whole {
		whole[i] = impl.Eq{Row: []int{5555}, Data: "spoilt"}
	}
}

// watched is a solver with spare room everywhere, and a look at all of it.
type watched struct {
	solver impl.Solver
	eqs    []impl.Eq
	rows   [][]int
}

func watch(s impl.Solver) watched {
	w := watched{solver: s}
	for _, eq := range s.Eqs {
		row, whole := roomy(eq.Row)
		w.rows = append(w.rows, whole)
		w.eqs = append(w.eqs, impl.Eq{Row: row, Data: eq.Data})
	}
	w.eqs = append(w.eqs, impl.Eq{Data: "spare"}, impl.Eq{Data: "spare"})
	w.solver.Eqs = w.eqs[:len(s.Eqs):len(w.eqs)]
	return w
}

// asWas says whether nothing was written into the solver, or behind an end.
func (w watched) asWas(s impl.Solver) bool {
	for i, eq := range s.Eqs {
		if !slices.Equal(w.rows[i], slices.Concat(eq.Row, []int{mark, mark, mark, mark})) {
			return false
		}
	}
	spare := []impl.Eq{{Data: "spare"}, {Data: "spare"}}
	return sameSolver(w.solver, s) && sameEqs(w.eqs, slices.Concat(s.Eqs, spare))
}

func TestRowsKeepTheirMemory(t *testing.T) {
	r := newSource(31)
	for range 100 {
		rowA, rowB := someRow(r, 24), someRow(r, 24)
		a, wholeA := roomy(rowA)
		b, wholeB := roomy(rowB)
		blocks := someBlocks(r, 24, 3)
		wasBlocks := slices.Clone(blocks)
		impl.RowOk(a, 24)
		impl.RowSum(blocks, a)
		got := impl.RowXor(a, b)
		again := impl.RowXor(a, b)
		spoil(got)
		if !slices.Equal(again, wantXor(rowA, rowB)) {
			t.Fatal("two answers of RowXor share memory")
		}
		marks := []int{mark, mark, mark, mark}
		if !slices.Equal(wholeA, slices.Concat(rowA, marks)) || !slices.Equal(wholeB, slices.Concat(rowB, marks)) || !slices.Equal(blocks, wasBlocks) {
			t.Fatalf("a row or blocks were written into: %v %v", wholeA, wholeB)
		}
	}
}

// With nothing on one side the other one is the answer, but not its memory.
func TestRowXorWithNothingIsNewMemory(t *testing.T) {
	row, whole := roomy([]int{1, 4})
	spoil(impl.RowXor(row, nil))
	spoil(impl.RowXor(nil, row))
	if !slices.Equal(whole, []int{1, 4, mark, mark, mark, mark}) {
		t.Errorf("RowXor shares memory: %v", whole)
	}
}

func TestSolversKeepTheirMemory(t *testing.T) {
	r := newSource(32)
	for range 300 {
		blocks := someBlocks(r, 6, 2)
		s, o := someSolver(t, r, blocks), someSolver(t, r, blocks)
		eq := someEq(r, blocks)
		if r.Intn(5) == 0 {
			eq.Row = []int{6} // a code by which it stays
		}
		wasS, wasO := copySolver(s), copySolver(o)
		watchS, watchO := watch(s), watch(o)
		row, whole := roomy(eq.Row)
		impl.SolverOk(watchS.solver)
		impl.SolverRank(watchS.solver)
		impl.SolverPrefix(watchS.solver)
		impl.SolverGet(watchS.solver, 0)
		impl.SolverSays(watchS.solver, row)
		added, _ := impl.SolverAdd(watchS.solver, row, eq.Data)
		joined, _ := impl.SolverJoin(watchS.solver, watchO.solver)
		spoilSolver(added)
		spoilSolver(joined)
		if !watchS.asWas(wasS) || !watchO.asWas(wasO) || !slices.Equal(whole, slices.Concat(eq.Row, []int{mark, mark, mark, mark})) {
			t.Fatalf("an argument was written into, or is shared: %#v %#v %v", watchS, watchO, whole)
		}
	}
}

func TestRowsOfAnAnswerShareNoMemory(t *testing.T) {
	s := impl.SolverNew(6, 1)
	for _, row := range [][]int{{0, 3, 4}, {1, 4, 5}, {2, 5}} {
		s = mustAdd(t, s, row, "a")
	}
	for i := range s.Eqs {
		answer, _ := impl.SolverAdd(s, nil, "\x00")
		spoil(answer.Eqs[i].Row)
		for j, eq := range answer.Eqs {
			if j != i && !slices.Equal(eq.Row, s.Eqs[j].Row) {
				t.Errorf("row %d and row %d share memory", i, j)
			}
		}
	}
}

func TestDrawsAreNewMemory(t *testing.T) {
	wasDegrees, wasRow := slices.Clone(impl.Degrees(5)), slices.Clone(impl.RowDraw(10, 3))
	spoil(impl.Degrees(5))
	spoil(impl.RowDraw(10, 3))
	if !slices.Equal(impl.Degrees(5), wasDegrees) || !slices.Equal(impl.RowDraw(10, 3), wasRow) {
		t.Error("Degrees or RowDraw hand out memory that they keep")
	}
}
