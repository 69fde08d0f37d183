package tests

import (
	"testing"

	"loop.example/wellhead/impl"
)

// The tests name limits and codes by their constants; here these are held against the document's numbers.
func TestLimitsAndCodes(t *testing.T) {
	cases := []struct {
		name      string
		got, want int
	}{
		{"RowMax", impl.RowMax, 24}, {"BlockMax", impl.BlockMax, 16}, {"SeedMax", impl.SeedMax, 2147483647}, {"PartAll", impl.PartAll, 65536},
		{"SolveNew", impl.SolveNew, 0}, {"SolveKnown", impl.SolveKnown, 1}, {"SolveWrong", impl.SolveWrong, 2}, {"SolveBad", impl.SolveBad, 3},
	}
	for _, c := range cases {
		if c.got != c.want {
			t.Errorf("%s is %d, not %d", c.name, c.got, c.want)
		}
	}
}
