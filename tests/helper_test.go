package tests

import (
	"math"
	"math/rand"
	"slices"
	"testing"

	"loop.example/wellhead/impl"
)

// tooBig and tooSmall are far outside all limits.
const (
	tooBig   = math.MaxInt
	tooSmall = math.MinInt
)

// newSource makes draws that are the same with each run, so that a failure can be seen again.
func newSource(seed int64) *rand.Rand {
	return rand.New(rand.NewSource(seed))
}

// upTo is the numbers 0 to count-1.
func upTo(count int) []int {
	var list []int
	for n := range count {
		list = append(list, n)
	}
	return list
}

// someRow draws a row of count, which may be empty.
func someRow(r *rand.Rand, count int) []int {
	var row []int
	for n := range count {
		if r.Intn(2) == 0 {
			row = append(row, n)
		}
	}
	return row
}

// someBlock draws a block; half of its bytes are noughts or all bits, as these are the edges.
func someBlock(r *rand.Rand, size int) string {
	block := make([]byte, size)
	for i := range block {
		switch r.Intn(4) {
		case 0:
			block[i] = 0
		case 1:
			block[i] = 255
		default:
			block[i] = byte(r.Intn(256))
		}
	}
	return string(block)
}

// someBlocks draws blocks of one size.
func someBlocks(r *rand.Rand, count int, size int) []string {
	var blocks []string
	for range count {
		blocks = append(blocks, someBlock(r, size))
	}
	return blocks
}

// noughts is a block of noughts.
func noughts(size int) string {
	return string(make([]byte, size))
}

// badRows are numbers that are no row of RowMax.
func badRows() [][]int {
	return [][]int{
		{-1}, {24}, {25}, {tooBig}, {tooSmall}, {-1, 0}, {0, 24}, {23, 24},
		{1, 1}, {1, 0}, {0, 2, 1}, {0, 0}, {0, 1, 1}, {5, 4, 3}, append(upTo(24), 24), append(upTo(24), 23),
	}
}

// sameEqs compares equations; the empty and the nil list are the same.
func sameEqs(a []impl.Eq, b []impl.Eq) bool {
	return slices.EqualFunc(a, b, func(x impl.Eq, y impl.Eq) bool {
		return slices.Equal(x.Row, y.Row) && x.Data == y.Data
	})
}

// sameSolver compares solvers.
func sameSolver(a impl.Solver, b impl.Solver) bool {
	return a.Count == b.Count && a.Size == b.Size && sameEqs(a.Eqs, b.Eqs)
}

// copySolver is a solver in memory of its own.
func copySolver(s impl.Solver) impl.Solver {
	c := impl.Solver{Count: s.Count, Size: s.Size}
	for _, eq := range s.Eqs {
		c.Eqs = append(c.Eqs, impl.Eq{Row: slices.Clone(eq.Row), Data: eq.Data})
	}
	return c
}

// mustAdd learns an equation that has to be new.
func mustAdd(t *testing.T, s impl.Solver, row []int, data string) impl.Solver {
	t.Helper()
	next, code := impl.SolverAdd(s, row, data)
	if code != impl.SolveNew {
		t.Fatalf("SolverAdd of %v %q to %#v is %d", row, data, s, code)
	}
	return next
}
