package impl

import "math/bits"

// Limits of rows.
const (
	RowMax   = 24
	BlockMax = 16
)

// rowSet is a row as bits; RowMax of them have room in it.
type rowSet uint32

// blockBytes is a block, as it is told or while it is still put together.
type blockBytes interface {
	~string | ~[]byte
}

// RowOk says whether numbers are a row: those of so many that are in it.
func RowOk(row []int, count int) bool {
	_, ok := rowSetOf(row, count)
	return ok
}

// RowXor is what is in just one of two rows.
func RowXor(a []int, b []int) []int {
	left, leftOk := rowSetOf(a, RowMax)
	right, rightOk := rowSetOf(b, RowMax)
	if !leftOk || !rightOk {
		return nil
	}
	return left.xor(right).numbers()
}

// BlockXor is two blocks, bit by bit unlike.
func BlockXor(a string, b string) (string, bool) {
	if len(a) != len(b) || len(a) > BlockMax {
		return "", false
	}
	return string(blockMix(a, b)), true
}

// RowSum is all blocks of a row together.
func RowSum(blocks []string, row []int) (string, bool) {
	if !RowOk(row, len(blocks)) || !blocksOk(blocks) {
		return "", false
	}
	sum := make([]byte, len(blocks[0]))
	for _, n := range row {
		sum = blockMix(sum, blocks[n])
	}
	return string(sum), true
}

// rowSetOf is the bits of a row of so many, if it is one.
func rowSetOf(row []int, count int) (rowSet, bool) {
	if count < 0 || count > RowMax {
		return 0, false
	}
	set, last := rowSet(0), -1
	for _, n := range row {
		if n <= last || n >= count {
			return 0, false
		}
		set, last = set.with(n), n
	}
	return set, true
}

// rowSetFull has all numbers of so many.
func rowSetFull(count int) rowSet {
	return rowSet(1)<<count - 1
}

// with is the set and one number more.
func (r rowSet) with(n int) rowSet {
	return r | rowSet(1)<<n
}

// without is the set, but for one number.
func (r rowSet) without(n int) rowSet {
	return r &^ (rowSet(1) << n)
}

// has says whether a number is in the set.
func (r rowSet) has(n int) bool {
	return r>>n&1 == 1
}

// xor is what is in just one of two sets.
func (r rowSet) xor(other rowSet) rowSet {
	return r ^ other
}

// empty says whether nothing is in the set.
func (r rowSet) empty() bool {
	return r == 0
}

// size is how many numbers are in the set.
func (r rowSet) size() int {
	return bits.OnesCount32(uint32(r))
}

// first is the least number of a set that is not empty.
func (r rowSet) first() int {
	return bits.TrailingZeros32(uint32(r))
}

// at is the number at a place of the set, ascending; the set has more numbers than that.
func (r rowSet) at(place int) int {
	for range place {
		r = r.without(r.first())
	}
	return r.first()
}

// numbers is the row of the set.
func (r rowSet) numbers() []int {
	var row []int
	for !r.empty() {
		row = append(row, r.first())
		r = r.without(r.first())
	}
	return row
}

// blocksOk says whether there are blocks, of one size that may be.
func blocksOk(blocks []string) bool {
	if len(blocks) == 0 || len(blocks[0]) > BlockMax {
		return false
	}
	for _, block := range blocks {
		if len(block) != len(blocks[0]) {
			return false
		}
	}
	return true
}

// blockMix puts two blocks of one size together, in new memory, so that neither is written into.
func blockMix[A, B blockBytes](a A, b B) []byte {
	mixed := make([]byte, len(a))
	for i := range mixed {
		mixed[i] = a[i] ^ b[i]
	}
	return mixed
}
