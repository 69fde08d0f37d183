package tests

import (
	"slices"
	"testing"

	"loop.example/wellhead/impl"
)

func TestRowOk(t *testing.T) {
	cases := []struct {
		row   []int
		count int
		want  bool
	}{
		{nil, 0, true}, {[]int{}, 0, true}, {nil, 1, true}, {nil, impl.RowMax, true}, {[]int{}, impl.RowMax, true},
		{nil, -1, false}, {nil, impl.RowMax + 1, false}, {nil, tooBig, false}, {nil, tooSmall, false},
		{[]int{0}, 0, false}, {[]int{0}, 1, true}, {[]int{1}, 1, false}, {[]int{0, 1}, 1, false}, {[]int{0, 1}, 2, true},
		{[]int{0}, impl.RowMax + 1, false}, {[]int{0}, -1, false}, {[]int{-1}, -1, false}, {[]int{-2}, -1, false},
		{[]int{23}, 24, true}, {[]int{23}, 23, false}, {[]int{0, 23}, 24, true}, {upTo(24), 24, true}, {upTo(23), 24, true}, {upTo(24), 23, false},
		{[]int{2, 5, 7}, 8, true}, {[]int{2, 5, 7}, 7, false}, {[]int{2, 7, 5}, 8, false}, {[]int{2, 2}, 8, false}, {[]int{-1, 2}, 8, false},
	}
	for _, c := range cases {
		if got := impl.RowOk(c.row, c.count); got != c.want {
			t.Errorf("RowOk of %v and %d is %v", c.row, c.count, got)
		}
	}
	for _, row := range badRows() {
		if impl.RowOk(row, impl.RowMax) {
			t.Errorf("RowOk of %v", row)
		}
	}
}

// wantXor is what is in just one of both, number by number.
func wantXor(a []int, b []int) []int {
	var want []int
	for n := range impl.RowMax {
		if slices.Contains(a, n) != slices.Contains(b, n) {
			want = append(want, n)
		}
	}
	return want
}

func TestP2RowXor(t *testing.T) {
	full := upTo(impl.RowMax)
	pairs := [][2][]int{
		{nil, nil}, {nil, {}}, {{}, {}}, {nil, {0}}, {{23}, nil}, {{0}, {0}}, {{0}, {23}}, {full, nil}, {full, full}, {full, {23}}, {{0, 2, 5}, {2, 3}},
	}
	r := newSource(2)
	for range 500 {
		pairs = append(pairs, [2][]int{someRow(r, impl.RowMax), someRow(r, impl.RowMax)})
	}
	for _, p := range pairs {
		got := impl.RowXor(p[0], p[1])
		if !slices.Equal(got, wantXor(p[0], p[1])) {
			t.Errorf("RowXor of %v and %v is %v", p[0], p[1], got)
		}
		if !slices.Equal(impl.RowXor(got, p[0]), p[1]) || !slices.Equal(impl.RowXor(p[1], got), p[0]) {
			t.Errorf("RowXor of %v and %v, and one again, is not the other", p[0], p[1])
		}
	}
}

func TestP2RowXorOfNoRows(t *testing.T) {
	for _, bad := range badRows() {
		for _, good := range [][]int{nil, {0}, {3, 7}, upTo(impl.RowMax)} {
			if got := impl.RowXor(bad, good); len(got) != 0 {
				t.Errorf("RowXor of %v and %v is %v", bad, good, got)
			}
			if got := impl.RowXor(good, bad); len(got) != 0 {
				t.Errorf("RowXor of %v and %v is %v", good, bad, got)
			}
		}
		if got := impl.RowXor(bad, bad); len(got) != 0 {
			t.Errorf("RowXor of %v twice is %v", bad, got)
		}
	}
}

func TestP3BlockXor(t *testing.T) {
	if s, ok := impl.BlockXor("ab", "bb"); s != "\x03\x00" || !ok {
		t.Errorf("BlockXor is %q %v", s, ok)
	}
	if s, ok := impl.BlockXor("", ""); s != "" || !ok {
		t.Errorf("BlockXor of empty blocks is %q %v", s, ok)
	}
	r := newSource(3)
	for size := range impl.BlockMax + 1 {
		for range 50 {
			a, b := someBlock(r, size), someBlock(r, size)
			x, ok := impl.BlockXor(a, b)
			if !ok || len(x) != size {
				t.Fatalf("BlockXor of %q and %q is %q %v", a, b, x, ok)
			}
			for i := range size {
				if x[i] != a[i]^b[i] {
					t.Errorf("BlockXor of %q and %q is %q", a, b, x)
				}
			}
			one, _ := impl.BlockXor(x, a)
			other, _ := impl.BlockXor(b, x)
			if one != b || other != a {
				t.Errorf("BlockXor of %q and one of both is not the other: %q %q", x, one, other)
			}
		}
	}
}

func TestP3BlockXorOfOtherSizes(t *testing.T) {
	sizes := [][2]int{{0, 1}, {1, 0}, {1, 2}, {2, 1}, {15, 16}, {16, 15}, {16, 17}, {17, 16}, {17, 17}, {18, 18}, {1000, 1000}}
	for _, s := range sizes {
		if got, ok := impl.BlockXor(noughts(s[0]), noughts(s[1])); got != "" || ok {
			t.Errorf("BlockXor of %d and %d bytes is %q %v", s[0], s[1], got, ok)
		}
	}
}

// wantSum puts the bytes of a row's blocks together, one by one.
func wantSum(blocks []string, row []int) string {
	sum := make([]byte, len(blocks[0]))
	for i := range sum {
		for _, n := range row {
			sum[i] ^= blocks[n][i]
		}
	}
	return string(sum)
}

func TestP4RowSum(t *testing.T) {
	r := newSource(4)
	for _, count := range []int{1, 2, 3, 10, 23, 24} {
		for _, size := range []int{0, 1, 2, 15, 16} {
			for range 20 {
				blocks := someBlocks(r, count, size)
				a, b := someRow(r, count), someRow(r, count)
				checkSum(t, blocks, a, b)
				checkSum(t, blocks, nil, b)
				checkSum(t, blocks, upTo(count), b)
			}
		}
	}
}

// checkSum holds RowSum of two rows, and of what is in just one of both, against each other.
func checkSum(t *testing.T, blocks []string, a []int, b []int) {
	t.Helper()
	sumA, okA := impl.RowSum(blocks, a)
	sumB, okB := impl.RowSum(blocks, b)
	sum, ok := impl.RowSum(blocks, impl.RowXor(a, b))
	if !okA || !okB || !ok {
		t.Fatalf("RowSum of %q, %v and %v is false", blocks, a, b)
	}
	if sumA != wantSum(blocks, a) || sumB != wantSum(blocks, b) {
		t.Errorf("RowSum of %q and %v is %q, of %v %q", blocks, a, sumA, b, sumB)
	}
	if x, _ := impl.BlockXor(sumA, sumB); x != sum {
		t.Errorf("RowSum of RowXor of %v and %v is %q, not %q", a, b, sum, x)
	}
}

func TestP4RowSumOfOthers(t *testing.T) {
	cases := []struct {
		blocks []string
		row    []int
	}{
		{nil, nil}, {[]string{}, []int{}}, {nil, []int{0}},
		{[]string{"ab"}, []int{1}}, {[]string{"ab"}, []int{-1}}, {[]string{"ab", "cd"}, []int{1, 0}}, {[]string{"ab", "cd"}, []int{0, 0}},
		{[]string{"ab", "c"}, nil}, {[]string{"ab", "c"}, []int{0}}, {[]string{"a", "cd"}, []int{0}}, {[]string{"ab", "cd", ""}, []int{0, 1}}, {[]string{"", "cd"}, []int{0}},
		{[]string{noughts(17)}, nil}, {[]string{noughts(17)}, []int{0}}, {[]string{noughts(17), noughts(17)}, []int{0, 1}},
		{[]string{noughts(16), noughts(17)}, []int{0}}, {[]string{noughts(17), noughts(16)}, []int{1}},
		{make([]string, impl.RowMax+1), nil}, {make([]string, impl.RowMax+1), []int{0}}, {make([]string, 1000), nil},
	}
	for _, c := range cases {
		if got, ok := impl.RowSum(c.blocks, c.row); got != "" || ok {
			t.Errorf("RowSum of %q and %v is %q %v", c.blocks, c.row, got, ok)
		}
	}
	blocks := someBlocks(newSource(5), impl.RowMax, 2)
	for _, row := range badRows() {
		if got, ok := impl.RowSum(blocks, row); got != "" || ok {
			t.Errorf("RowSum of %v is %q %v", row, got, ok)
		}
	}
}

func TestP4RowSumAtItsLimits(t *testing.T) {
	blocks := make([]string, impl.RowMax)
	for i := range blocks {
		blocks[i] = noughts(impl.BlockMax)
	}
	blocks[23] = "sixteen bytes ab"
	if got, ok := impl.RowSum(blocks, upTo(24)); got != blocks[23] || !ok {
		t.Errorf("RowSum at both limits is %q %v", got, ok)
	}
	if got, ok := impl.RowSum([]string{"a"}, []int{0}); got != "a" || !ok {
		t.Errorf("RowSum of one block is %q %v", got, ok)
	}
	if got, ok := impl.RowSum([]string{"", ""}, []int{0, 1}); got != "" || !ok {
		t.Errorf("RowSum of empty blocks is %q %v", got, ok)
	}
}
