package impl

import "iter"

// Codes of equations.
const (
	SolveNew   = 0
	SolveKnown = 1
	SolveWrong = 2
	SolveBad   = 3
)

// Eq says that the blocks of a row are together some data.
type Eq struct {
	Row  []int
	Data string
}

// Solver is what is known of so many blocks of a size: equations, each with a first number that no other one has.
type Solver struct {
	Count int
	Size  int
	Eqs   []Eq
}

// solverLink is an equation, and those with greater first numbers behind it.
type solverLink struct {
	row  rowSet
	data []byte
	next *solverLink
}

// solverList is a solver that is ok, its equations linked by their first numbers.
type solverList struct {
	count int
	size  int
	head  *solverLink
}

// SolverNew knows nothing.
func SolverNew(count int, size int) Solver {
	if !solverSizesOk(count, size) {
		return Solver{}
	}
	return Solver{Count: count, Size: size}
}

// SolverOk says whether what is known is in its form.
func SolverOk(s Solver) bool {
	_, ok := solverListOf(s)
	return ok
}

// SolverAdd learns an equation.
func SolverAdd(s Solver, row []int, data string) (Solver, int) {
	list, ok := solverListOf(s)
	if !ok {
		return Solver{}, SolveBad
	}
	set, ok := rowSetOf(row, list.count)
	if !ok || len(data) != list.size {
		return list.solver(), SolveBad
	}
	code := list.learn(set, []byte(data))
	return list.solver(), code
}

// SolverGet is a block, if it is known.
func SolverGet(s Solver, at int) (string, bool) {
	list, _ := solverListOf(s)
	for link := range list.links() {
		if link.isBlock(at) {
			return string(link.data), true
		}
	}
	return "", false
}

// SolverRank is how much is known.
func SolverRank(s Solver) int {
	list, _ := solverListOf(s)
	rank := 0
	for range list.links() {
		rank++
	}
	return rank
}

// SolverPrefix is how many of the first blocks are known.
func SolverPrefix(s Solver) int {
	list, _ := solverListOf(s)
	prefix := 0
	for link := range list.links() {
		if !link.isBlock(prefix) {
			break
		}
		prefix++
	}
	return prefix
}

// SolverSays is what all that is known says of a row, if it says something.
func SolverSays(s Solver, row []int) (string, bool) {
	list, ok := solverListOf(s)
	if !ok {
		return "", false
	}
	set, ok := rowSetOf(row, list.count)
	if !ok {
		return "", false
	}
	left, data := list.last(set, make([]byte, list.size))
	if !left.empty() {
		return "", false
	}
	return string(data), true
}

// SolverJoin is what two know together.
func SolverJoin(a Solver, b Solver) (Solver, bool) {
	first, firstOk := solverListOf(a)
	second, secondOk := solverListOf(b)
	if !firstOk || !secondOk || first.count != second.count || first.size != second.size {
		return Solver{}, false
	}
	for link := range second.links() {
		if first.learn(link.row, link.data) == SolveWrong {
			return Solver{}, false
		}
	}
	return first.solver(), true
}

// solverSizesOk says whether there can be so many blocks of a size.
func solverSizesOk(count int, size int) bool {
	return count >= 1 && count <= RowMax && size >= 1 && size <= BlockMax
}

// solverListOf is the list of a solver, if that is ok, in memory of its own; else one without equations.
func solverListOf(s Solver) (solverList, bool) {
	if !solverSizesOk(s.Count, s.Size) {
		return solverList{}, false
	}
	list := solverList{count: s.Count, size: s.Size}
	// From the last one on, as a link comes ahead of those that are there.
	for i := len(s.Eqs) - 1; i >= 0; i-- {
		row, ok := rowSetOf(s.Eqs[i].Row, s.Count)
		if !ok || len(s.Eqs[i].Data) != s.Size || !list.fitsAhead(row) {
			return solverList{}, false
		}
		list.head = &solverLink{row: row, data: []byte(s.Eqs[i].Data), next: list.head}
	}
	return list, true
}

// fitsAhead says whether a row may stand ahead of all links. (That its first number is in none of theirs follows: all of theirs are greater.)
func (l *solverList) fitsAhead(row rowSet) bool {
	if row.empty() {
		return false
	}
	for link := range l.links() {
		if row.first() >= link.row.first() || row.has(link.row.first()) {
			return false
		}
	}
	return true
}

// solver is the list as it is handed out.
func (l *solverList) solver() Solver {
	s := Solver{Count: l.count, Size: l.size}
	for link := range l.links() {
		s.Eqs = append(s.Eqs, Eq{Row: link.row.numbers(), Data: string(link.data)})
	}
	return s
}

// links tells the equations, by first numbers.
func (l *solverList) links() iter.Seq[*solverLink] {
	return func(yield func(*solverLink) bool) {
		for link := l.head; link != nil; link = link.next {
			if !yield(link) {
				return
			}
		}
	}
}

// left tells what is left of an equation, at first all of it, then behind each one that it is put together with.
func (l *solverList) left(row rowSet, data []byte) iter.Seq2[rowSet, []byte] {
	return func(yield func(rowSet, []byte) bool) {
		row, data := row, data // its own, as it may be gone through more than once
		if !yield(row, data) {
			return
		}
		for link := range l.links() {
			if !row.has(link.row.first()) {
				continue
			}
			row, data = row.xor(link.row), blockMix(data, link.data)
			if !yield(row, data) {
				return
			}
		}
	}
}

// last is what is left of an equation in the end.
func (l *solverList) last(row rowSet, data []byte) (rowSet, []byte) {
	for leftRow, leftData := range l.left(row, data) {
		row, data = leftRow, leftData
	}
	return row, data
}

// learn takes an equation in, and tells its code.
func (l *solverList) learn(row rowSet, data []byte) int {
	row, data = l.last(row, data)
	if row.empty() {
		return solverEmptyCode(data)
	}
	for link := range l.links() {
		if link.row.has(row.first()) {
			link.row, link.data = link.row.xor(row), blockMix(link.data, data)
		}
	}
	l.head = l.head.among(&solverLink{row: row, data: data})
	return SolveNew
}

// solverEmptyCode is the code of an equation of no block: its data have to be noughts.
func solverEmptyCode(data []byte) int {
	for _, b := range data {
		if b != 0 {
			return SolveWrong
		}
	}
	return SolveKnown
}

// among is the links from one on, with another one at its place.
func (k *solverLink) among(added *solverLink) *solverLink {
	if k == nil || k.row.first() > added.row.first() {
		added.next = k
		return added
	}
	k.next = k.next.among(added)
	return k
}

// isBlock says whether an equation is of just one block.
func (k *solverLink) isBlock(at int) bool {
	return k.row.size() == 1 && k.row.first() == at
}
