package impl

// Limits of draws.
const (
	SeedMax = 2147483647
	PartAll = 65536
)

// drawSeed is a seed, with room for its product.
type drawSeed uint64

// SeedNext is the seed behind a seed.
func SeedNext(seed int) int {
	s, ok := drawSeedOf(seed)
	if !ok {
		return 0
	}
	return int(s.next())
}

// SeedPick is a number below n by a seed.
func SeedPick(seed int, n int) int {
	s, ok := drawSeedOf(seed)
	if !ok || n < 1 || n > PartAll {
		return 0
	}
	return s.pick(n)
}

// Degrees is how many parts of PartAll each number of blocks has, from 1 on.
func Degrees(count int) []int {
	if count < 1 || count > RowMax {
		return nil
	}
	take := partTaker()
	var parts []int
	for degree := 1; degree < count; degree++ {
		parts = append(parts, take(degreeWish(count, degree)))
	}
	return append(parts, take(PartAll))
}

// DegreeOf is the number of blocks by a part of PartAll.
func DegreeOf(count int, part int) int {
	if part < 0 || part >= PartAll {
		return 0
	}
	upTo := 0
	for i, parts := range Degrees(count) {
		upTo += parts
		if upTo > part {
			return i + 1
		}
	}
	return 0
}

// RowDraw draws a row of so many blocks by a seed.
func RowDraw(count int, seed int) []int {
	s, ok := drawSeedOf(seed)
	if !ok || count < 1 || count > RowMax {
		return nil
	}
	// Two steps on, so that seeds side by side draw rows that are not alike.
	s = s.next().next()
	drawn, left := rowSet(0), rowSetFull(count)
	for range DegreeOf(count, s.pick(PartAll)) {
		s = s.next()
		n := left.at(s.pick(left.size()))
		drawn, left = drawn.with(n), left.without(n)
	}
	return drawn.numbers()
}

// drawSeedOf is a number as a seed, if it is one.
func drawSeedOf(number int) (drawSeed, bool) {
	if number < 0 || number > SeedMax {
		return 0, false
	}
	return drawSeed(number), true
}

// next is the seed behind the seed.
func (s drawSeed) next() drawSeed {
	return (s*1103515245 + 12345) % (SeedMax + 1)
}

// pick is a number below n, which is above 0; the lowest bits are left out, as they go round too soon.
func (s drawSeed) pick(n int) int {
	return int(s / 256 % drawSeed(n))
}

// partTaker gives away parts of PartAll, as many as are wished for, as long as they are left.
func partTaker() func(int) int {
	left := PartAll
	return func(wish int) int {
		taken := min(wish, left)
		left -= taken
		return taken
	}
}

// degreeWish is how many parts a degree below count would have, were there always enough of them.
func degreeWish(count int, degree int) int {
	if degree == 1 {
		return PartAll / count
	}
	return PartAll / (degree * (degree - 1)) * 7 / 8
}
