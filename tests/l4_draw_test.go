package tests

import (
	"math/big"
	"slices"
	"testing"

	"loop.example/wellhead/impl"
)

// wantNext is the seed behind a seed, by numbers without a limit.
func wantNext(seed int) int {
	n := new(big.Int).Mul(big.NewInt(int64(seed)), big.NewInt(1103515245))
	n.Add(n, big.NewInt(12345))
	return int(n.Mod(n, big.NewInt(2147483648)).Int64())
}

// someSeeds is the edges, and seeds between them.
func someSeeds() []int {
	seeds := []int{0, 1, 2, 255, 256, 257, 65535, 65536, 1 << 30, impl.SeedMax - 257, impl.SeedMax - 2, impl.SeedMax - 1, impl.SeedMax}
	r := newSource(11)
	for range 500 {
		seeds = append(seeds, r.Intn(impl.SeedMax))
	}
	return seeds
}

// badSeeds are no seeds.
func badSeeds() []int {
	return []int{-1, -2, -256, impl.SeedMax + 1, impl.SeedMax + 2, tooBig, tooSmall}
}

func TestP11SeedNext(t *testing.T) {
	for _, seed := range someSeeds() {
		if got := impl.SeedNext(seed); got != wantNext(seed) {
			t.Errorf("SeedNext of %d is %d, not %d", seed, got, wantNext(seed))
		}
		if seed < impl.SeedMax && impl.SeedNext(seed) == impl.SeedNext(seed+1) {
			t.Errorf("SeedNext of %d and the one behind it are the same", seed)
		}
	}
	if impl.SeedNext(0) != 12345 || impl.SeedNext(1) != 1103527590 {
		t.Error("SeedNext of 0 or 1")
	}
	for _, seed := range badSeeds() {
		if got := impl.SeedNext(seed); got != 0 {
			t.Errorf("SeedNext of %d is %d", seed, got)
		}
	}
}

// A few tens of thousands of seeds lead to as many others: none comes up twice.
func TestP11SeedNextLeadsToOneSeedAlone(t *testing.T) {
	from := map[int]int{}
	for seed := range 50000 {
		next := impl.SeedNext(seed)
		if other, there := from[next]; there {
			t.Fatalf("SeedNext of %d and %d are both %d", other, seed, next)
		}
		from[next] = seed
	}
}

func TestP11SeedPick(t *testing.T) {
	for _, seed := range someSeeds() {
		for _, n := range []int{1, 2, 3, 7, 24, 255, 256, 1000, impl.PartAll - 1, impl.PartAll} {
			got := impl.SeedPick(seed, n)
			if got != seed/256%n || got < 0 || got >= n {
				t.Errorf("SeedPick of %d and %d is %d", seed, n, got)
			}
		}
		for _, n := range []int{0, -1, -7, impl.PartAll + 1, tooBig, tooSmall} {
			if got := impl.SeedPick(seed, n); got != 0 {
				t.Errorf("SeedPick of %d and %d is %d", seed, n, got)
			}
		}
	}
	for _, seed := range badSeeds() {
		for _, n := range []int{-1, 0, 1, 7, impl.PartAll, impl.PartAll + 1} {
			if got := impl.SeedPick(seed, n); got != 0 {
				t.Errorf("SeedPick of %d and %d is %d", seed, n, got)
			}
		}
	}
	if impl.SeedPick(impl.SeedMax, impl.PartAll) != 65535 || impl.SeedPick(255, impl.PartAll) != 0 || impl.SeedPick(256, impl.PartAll) != 1 {
		t.Error("SeedPick at its limits")
	}
}

func TestP12DegreesAreAllParts(t *testing.T) {
	for count := 1; count <= impl.RowMax; count++ {
		got := impl.Degrees(count)
		if len(got) != count {
			t.Fatalf("Degrees of %d are %v", count, got)
		}
		left := 65536
		for i, parts := range got {
			want := left
			switch d := i + 1; {
			case d == count:
			case d == 1:
				want = min(left, 65536/count)
			default:
				want = min(left, 65536/(d*(d-1))*7/8)
			}
			if parts != want || parts < 0 {
				t.Errorf("Degrees of %d have %d for %d, not %d", count, parts, i+1, want)
			}
			left -= parts
		}
		if left != 0 {
			t.Errorf("Degrees of %d leave %d parts", count, left)
		}
	}
}

func TestP12DegreesWrittenOut(t *testing.T) {
	cases := []struct {
		count int
		want  []int
	}{
		{1, []int{65536}}, {2, []int{32768, 32768}}, {3, []int{21845, 28672, 15019}}, {5, []int{13107, 28672, 9556, 4778, 9423}},
		{0, nil}, {-1, nil}, {impl.RowMax + 1, nil}, {tooBig, nil}, {tooSmall, nil},
	}
	for _, c := range cases {
		if got := impl.Degrees(c.count); !slices.Equal(got, c.want) {
			t.Errorf("Degrees of %d are %v", c.count, got)
		}
	}
}

func TestP12DegreeOf(t *testing.T) {
	for count := 1; count <= impl.RowMax; count++ {
		part := 0
		for i, parts := range impl.Degrees(count) {
			// The first and the last part of each number, and one between.
			for _, p := range []int{part, part + parts/2, part + parts - 1} {
				if got := impl.DegreeOf(count, p); got != i+1 {
					t.Errorf("DegreeOf of %d and %d is %d, not %d", count, p, got, i+1)
				}
			}
			part += parts
		}
		for _, p := range []int{-1, impl.PartAll, impl.PartAll + 1, tooBig, tooSmall} {
			if got := impl.DegreeOf(count, p); got != 0 {
				t.Errorf("DegreeOf of %d and %d is %d", count, p, got)
			}
		}
	}
	for _, count := range []int{0, -1, impl.RowMax + 1, tooBig, tooSmall} {
		for _, p := range []int{-1, 0, 1, impl.PartAll - 1, impl.PartAll} {
			if got := impl.DegreeOf(count, p); got != 0 {
				t.Errorf("DegreeOf of %d and %d is %d", count, p, got)
			}
		}
	}
}

// wantDraw draws a row out of a list of the numbers that are left.
func wantDraw(count int, seed int) []int {
	s := wantNext(wantNext(seed))
	part, degree := s/256%65536, 1
	for _, parts := range impl.Degrees(count) {
		if part < parts {
			break
		}
		part -= parts
		degree++
	}
	left := upTo(count)
	var row []int
	for range degree {
		s = wantNext(s)
		at := s / 256 % len(left)
		row = append(row, left[at])
		left = slices.Delete(left, at, at+1)
	}
	slices.Sort(row)
	return row
}

func TestP13RowDraw(t *testing.T) {
	seeds := append(someSeeds(), upTo(300)...)
	for count := 1; count <= impl.RowMax; count++ {
		for _, seed := range seeds {
			row := impl.RowDraw(count, seed)
			if !impl.RowOk(row, count) || len(row) < 1 || len(row) > count {
				t.Errorf("RowDraw of %d and %d is no row: %v", count, seed, row)
			}
			if !slices.Equal(row, impl.RowDraw(count, seed)) {
				t.Errorf("RowDraw of %d and %d is not the same again", count, seed)
			}
			if want := wantDraw(count, seed); !slices.Equal(row, want) {
				t.Errorf("RowDraw of %d and %d is %v, not %v", count, seed, row, want)
			}
		}
	}
}

func TestP13RowDrawWrittenOut(t *testing.T) {
	cases := []struct {
		count, seed int
		want        []int
	}{
		{10, 3, []int{2, 3, 4, 5, 9}}, {10, 4, []int{0, 2}}, {1, 0, []int{0}}, {1, impl.SeedMax, []int{0}},
		{25, 4, nil}, {0, 4, nil}, {-1, 4, nil}, {tooBig, 4, nil}, {tooSmall, 4, nil},
	}
	for _, c := range cases {
		if got := impl.RowDraw(c.count, c.seed); !slices.Equal(got, c.want) {
			t.Errorf("RowDraw of %d and %d is %v", c.count, c.seed, got)
		}
	}
	for _, seed := range badSeeds() {
		for _, count := range []int{0, 1, 10, impl.RowMax, impl.RowMax + 1} {
			if got := impl.RowDraw(count, seed); len(got) != 0 {
				t.Errorf("RowDraw of %d and %d is %v", count, seed, got)
			}
		}
	}
}

// Each number of blocks is drawn by some seed, all of them too.
func TestP13RowDrawReachesEachDegree(t *testing.T) {
	for _, count := range []int{2, 5, impl.RowMax} {
		seen := map[int]int{}
		for seed := range 20000 {
			seen[len(impl.RowDraw(count, seed))]++
		}
		if len(seen) != count {
			t.Errorf("RowDraw of %d has rows of %d lengths", count, len(seen))
		}
	}
}
