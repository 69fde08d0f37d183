package tests

import (
	"slices"
	"strings"
	"testing"
	"unsafe"

	"loop.example/wellhead/impl"
)

// mark stands in all spare room, to show what is written there.
const mark = -77

// roomy is a list with spare room behind its end, and the whole of it.
func roomy(list []int) ([]int, []int) {
	whole := slices.Concat(list, []int{mark, mark, mark, mark})
	return whole[:len(list)], whole
}

// spoil writes into all of a list that was answered, spare room included.
func spoil(list []int) {
	whole := list[:cap(list)]
	for i := range whole {
		whole[i] = 5555
	}
}

// spoilSolver writes into all lists of a solver that was answered.
func spoilSolver(s impl.Solver) {
	for _, eq := range s.Eqs {
		spoil(eq.Row)
	}
	whole := s.Eqs[:cap(s.Eqs)]
	for i := range whole {
		whole[i] = impl.Eq{Row: []int{5555}, Data: "spoilt"}
	}
}

// watched is a solver with spare room everywhere, and a look at all of it.
type watched struct {
	solver impl.Solver
	eqs    []impl.Eq
	rows   [][]int
}

func watch(s impl.Solver) watched {
	w := watched{solver: s}
	for _, eq := range s.Eqs {
		row, whole := roomy(eq.Row)
		w.rows = append(w.rows, whole)
		w.eqs = append(w.eqs, impl.Eq{Row: row, Data: eq.Data})
	}
	w.eqs = append(w.eqs, impl.Eq{Data: "spare"}, impl.Eq{Data: "spare"})
	w.solver.Eqs = w.eqs[:len(s.Eqs):len(w.eqs)]
	return w
}

// asWas says whether nothing was written into the solver, or behind an end.
func (w watched) asWas(s impl.Solver) bool {
	for i, eq := range s.Eqs {
		if !slices.Equal(w.rows[i], slices.Concat(eq.Row, []int{mark, mark, mark, mark})) {
			return false
		}
	}
	spare := []impl.Eq{{Data: "spare"}, {Data: "spare"}}
	return sameSolver(w.solver, s) && sameEqs(w.eqs, slices.Concat(s.Eqs, spare))
}

func TestRowsKeepTheirMemory(t *testing.T) {
	r := newSource(31)
	for range 100 {
		rowA, rowB := someRow(r, 24), someRow(r, 24)
		a, wholeA := roomy(rowA)
		b, wholeB := roomy(rowB)
		blocks := someBlocks(r, 24, 3)
		wasBlocks := slices.Clone(blocks)
		impl.RowOk(a, 24)
		impl.RowSum(blocks, a)
		got := impl.RowXor(a, b)
		again := impl.RowXor(a, b)
		spoil(got)
		if !slices.Equal(again, wantXor(rowA, rowB)) {
			t.Fatal("two answers of RowXor share memory")
		}
		marks := []int{mark, mark, mark, mark}
		if !slices.Equal(wholeA, slices.Concat(rowA, marks)) || !slices.Equal(wholeB, slices.Concat(rowB, marks)) || !slices.Equal(blocks, wasBlocks) {
			t.Fatalf("a row or blocks were written into: %v %v", wholeA, wholeB)
		}
	}
}

// With nothing on one side the other one is the answer, but not its memory.
func TestRowXorWithNothingIsNewMemory(t *testing.T) {
	row, whole := roomy([]int{1, 4})
	spoil(impl.RowXor(row, nil))
	spoil(impl.RowXor(nil, row))
	if !slices.Equal(whole, []int{1, 4, mark, mark, mark, mark}) {
		t.Errorf("RowXor shares memory: %v", whole)
	}
}

func TestSolversKeepTheirMemory(t *testing.T) {
	r := newSource(32)
	for range 300 {
		blocks := someBlocks(r, 6, 2)
		s, o := someSolver(t, r, blocks), someSolver(t, r, blocks)
		eq := someEq(r, blocks)
		if r.Intn(5) == 0 {
			eq.Row = []int{6} // a code by which it stays
		}
		wasS, wasO := copySolver(s), copySolver(o)
		watchS, watchO := watch(s), watch(o)
		row, whole := roomy(eq.Row)
		impl.SolverOk(watchS.solver)
		impl.SolverRank(watchS.solver)
		impl.SolverPrefix(watchS.solver)
		impl.SolverGet(watchS.solver, 0)
		impl.SolverSays(watchS.solver, row)
		added, _ := impl.SolverAdd(watchS.solver, row, eq.Data)
		joined, _ := impl.SolverJoin(watchS.solver, watchO.solver)
		spoilSolver(added)
		spoilSolver(joined)
		if !watchS.asWas(wasS) || !watchO.asWas(wasO) || !slices.Equal(whole, slices.Concat(eq.Row, []int{mark, mark, mark, mark})) {
			t.Fatalf("an argument was written into, or is shared: %#v %#v %v", watchS, watchO, whole)
		}
	}
}

func TestRowsOfAnAnswerShareNoMemory(t *testing.T) {
	s := impl.SolverNew(6, 1)
	for _, row := range [][]int{{0, 3, 4}, {1, 4, 5}, {2, 5}} {
		s = mustAdd(t, s, row, "a")
	}
	for i := range s.Eqs {
		answer, _ := impl.SolverAdd(s, nil, "\x00")
		spoil(answer.Eqs[i].Row)
		for j, eq := range answer.Eqs {
			if j != i && !slices.Equal(eq.Row, s.Eqs[j].Row) {
				t.Errorf("row %d and row %d share memory", i, j)
			}
		}
	}
}

func TestDrawsAreNewMemory(t *testing.T) {
	wasDegrees, wasRow := slices.Clone(impl.Degrees(5)), slices.Clone(impl.RowDraw(10, 3))
	spoil(impl.Degrees(5))
	spoil(impl.RowDraw(10, 3))
	if !slices.Equal(impl.Degrees(5), wasDegrees) || !slices.Equal(impl.RowDraw(10, 3), wasRow) {
		t.Error("Degrees or RowDraw hand out memory that they keep")
	}
}

// spoilPlan writes into all lists of a plan that was answered.
func spoilPlan(p impl.Plan) {
	spoil(p.Windows)
	spoil(p.Weights)
}

// watchedPlan is a plan with spare room, and a look at all of it.
type watchedPlan struct {
	plan             impl.Plan
	windows, weights []int
}

func watchPlan(p impl.Plan) watchedPlan {
	w := watchedPlan{plan: p}
	w.plan.Windows, w.windows = roomy(p.Windows)
	w.plan.Weights, w.weights = roomy(p.Weights)
	return w
}

// asWas says whether nothing was written into the plan, or behind an end.
func (w watchedPlan) asWas(p impl.Plan) bool {
	marks := []int{mark, mark, mark, mark}
	return samePlan(w.plan, p) && slices.Equal(w.windows, slices.Concat(p.Windows, marks)) && slices.Equal(w.weights, slices.Concat(p.Weights, marks))
}

func TestPlansKeepTheirMemory(t *testing.T) {
	r := newSource(33)
	for range 200 {
		p := somePlan(r)
		was, w := copyPlan(p), watchPlan(p)
		text := someText(r, p.Long)
		impl.PlanOk(w.plan)
		impl.PlanCount(w.plan)
		impl.PlanSymbol(w.plan, text, 30)
		impl.PlanWrite(w.plan)
		blocks := impl.PlanCut(w.plan, text)
		spoil(impl.PlanRow(w.plan, 0))
		spoil(impl.PlanRow(w.plan, 30))
		g := impl.GetNew(w.plan)
		spoilPlan(g.Plan)
		spoilSolver(g.Solver)
		if !w.asWas(was) {
			t.Fatalf("a plan was written into, or is shared: %#v", w)
		}
		for i := range blocks[:cap(blocks)] {
			blocks[:cap(blocks)][i] = "spoilt"
		}
		if again := impl.PlanCut(w.plan, text); strings.Join(again, "")[:p.Long] != text {
			t.Fatal("two answers of PlanCut share memory")
		}
	}
}

// The two lists of a plan that is answered are written into, one after the other.
func TestListsOfAPlanShareNoMemory(t *testing.T) {
	want := impl.Plan{Long: 60, Size: 8, Windows: []int{2, 8}, Weights: []int{2, 3}}
	answers := func() []impl.Plan {
		read, _ := impl.PlanRead("60/8:2,8:2,3")
		g := impl.GetNew(want)
		added, _ := impl.GetAdd(g, 0, "12345678")
		stayed, _ := impl.GetAdd(g, -1, "12345678")
		return []impl.Plan{impl.PlanFor(60), read, g.Plan, added.Plan, stayed.Plan}
	}
	for i, p := range answers() {
		spoil(p.Windows)
		if !slices.Equal(p.Weights, want.Weights) {
			t.Errorf("answer %d: windows and weights share memory", i)
		}
	}
	for i, p := range answers() {
		spoil(p.Weights)
		if !slices.Equal(p.Windows, want.Windows) {
			t.Errorf("answer %d: weights and windows share memory", i)
		}
	}
	for i, p := range answers() {
		if !samePlan(p, want) {
			t.Errorf("answer %d is memory that is kept: %#v", i, p)
		}
	}
}

func TestGettingsKeepTheirMemory(t *testing.T) {
	r := newSource(34)
	for range 200 {
		p := somePlan(r)
		text := someText(r, p.Long)
		g := someGetting(t, r, p, text)
		id := []int{-1, 0, 30, impl.IdMax, impl.IdMax + 1}[r.Intn(5)]
		data, _ := impl.PlanSymbol(p, text, id)
		was := copyGetting(g)
		plan, solver := watchPlan(g.Plan), watch(g.Solver)
		watched := impl.Getting{Plan: plan.plan, Solver: solver.solver}
		impl.GetOk(watched)
		impl.GetWindows(watched)
		impl.GetText(watched)
		impl.GetDone(watched)
		impl.GetWant(watched, 0)
		added, _ := impl.GetAdd(watched, id, data)
		spoilPlan(added.Plan)
		spoilSolver(added.Solver)
		if !plan.asWas(was.Plan) || !solver.asWas(was.Solver) {
			t.Fatalf("what is known was written into, or is shared: %#v %#v", plan, solver)
		}
	}
}

// sharesBytes says whether two texts have bytes in the same memory.
func sharesBytes(a string, b string) bool {
	if a == "" || b == "" {
		return false
	}
	startA, startB := uintptr(unsafe.Pointer(unsafe.StringData(a))), uintptr(unsafe.Pointer(unsafe.StringData(b)))
	return startA < startB+uintptr(len(b)) && startB < startA+uintptr(len(a))
}

func TestTextsAreNewMemory(t *testing.T) {
	thing := strings.Repeat("abcdefgh", 2)
	p := impl.PlanFor(len(thing))
	for id, block := range impl.PlanCut(p, thing) {
		symbol, _ := impl.PlanSymbol(p, thing, id)
		if sharesBytes(block, thing) || sharesBytes(symbol, thing) {
			t.Errorf("block %d shares the memory of the thing", id)
		}
		g, _ := impl.GetAdd(impl.GetNew(p), id, block)
		if sharesBytes(g.Solver.Eqs[0].Data, block) || sharesBytes(impl.GetText(g), g.Solver.Eqs[0].Data) {
			t.Errorf("what is known of block %d shares memory", id)
		}
	}
	for _, w := range []impl.Word{{Kind: impl.WordOpen, Try: 1, Name: "abc"}, {Kind: impl.WordSymbol, Try: 1, Edition: 1, Data: "data"}} {
		text := impl.WordWrite(w)
		read, _ := impl.WordRead(text)
		if sharesBytes(read.Name, text) || sharesBytes(read.Data, text) || sharesBytes(text, w.Data) {
			t.Errorf("%#v shares the memory of its text", read)
		}
	}
}

func TestLogsAreNewMemory(t *testing.T) {
	record := strings.Repeat("r", 40)
	log := mustLog(t, mustLog(t, "", "first"), record)
	records, _ := impl.LogRead(log)
	for _, read := range records {
		if sharesBytes(read, log) {
			t.Errorf("the record %q shares the memory of its log", read)
		}
	}
	torn := log[:len(log)-1]
	for _, answer := range []string{impl.LogMend(log), impl.LogMend(torn), impl.LogTorn(log, record, 0), impl.LogTorn(log, record, 9), impl.LogTorn(log, "", 9), impl.LogTorn(torn, record, 9), mustLog(t, log, record)} {
		if sharesBytes(answer, log) || sharesBytes(answer, record) {
			t.Errorf("%q shares the memory of the log", answer)
		}
	}
	records[0], records[:cap(records)][cap(records)-1] = "spoilt", "spoilt"
	if again, _ := impl.LogRead(log); !slices.Equal(again, []string{"first", record}) {
		t.Error("two answers of LogRead share memory")
	}
}

// watchedCat is a catalogue with spare room, and a look at all of it.
type watchedCat struct {
	cat   impl.Cat
	items []impl.Item
}

func watchCat(c impl.Cat) watchedCat {
	w := watchedCat{cat: c, items: slices.Concat(c.Items, []impl.Item{{House: mark}, {House: mark}})}
	w.cat.Items = w.items[:len(c.Items)]
	return w
}

// asWas says whether nothing was written into the catalogue, or behind its end.
func (w watchedCat) asWas(c impl.Cat) bool {
	return sameCat(w.cat, c) && slices.Equal(w.items, slices.Concat(c.Items, []impl.Item{{House: mark}, {House: mark}}))
}

// spoilCat writes into all of a catalogue that was answered, spare room included.
func spoilCat(c impl.Cat) {
	whole := c.Items[:cap(c.Items)]
	for i := range whole {
		whole[i] = impl.Item{House: 5555, Name: "spoilt"}
	}
}

func TestCatsKeepTheirMemory(t *testing.T) {
	r := newSource(35)
	for range 500 {
		c := someCat(r)
		was, w := copyCat(c), watchCat(c)
		house, name, text := r.Intn(3), catNames()[r.Intn(10)], strings.Repeat("x", r.Intn(4))
		impl.CatOk(w.cat)
		impl.CatGet(w.cat, house, name)
		impl.CatEdition(w.cat, 1)
		impl.CatBytes(w.cat, house)
		put, _ := impl.CatPut(w.cat, house, name, text)
		taken, _ := impl.CatTake(w.cat, house, name)
		spoilCat(put)
		spoilCat(taken)
		if !w.asWas(was) {
			t.Fatalf("a catalogue was written into, or is shared: %#v", w)
		}
	}
	records := []string{"0 a:x", "0 b:y", "0 a:", "1 a:z", "spare"}
	was := slices.Clone(records)
	c, _ := impl.CatOf(records[:4])
	spoilCat(c)
	if again, ok := impl.CatOf(records[:4]); !slices.Equal(records, was) || !ok || len(again.Items) != 2 || again.Items[0].Name != "b" {
		t.Errorf("records were written into, or CatOf hands out what it keeps: %q %#v", records, again)
	}
}

func TestTextsOfCatsAreNewMemory(t *testing.T) {
	name, text := strings.Repeat("n", 6), strings.Repeat("t", 60)
	c, _ := impl.CatPut(impl.Cat{}, 1, name, text)
	record := impl.CatRecord(1, name, text)
	read, _ := impl.CatOf([]string{record})
	more, _ := impl.CatPut(c, 0, "a", "x")
	stays, _ := impl.CatPut(c, 0, "", "x")
	less, _ := impl.CatTake(more, 0, "a")
	got, _ := impl.CatGet(c, 1, name)
	edition, _ := impl.CatEdition(c, 1)
	items := []impl.Item{c.Items[0], read.Items[0], more.Items[1], stays.Items[0], less.Items[0], got, edition}
	texts := []string{name, text, record}
	for i, item := range items {
		for _, other := range append(texts, item.Name) {
			if sharesBytes(item.Text, other) {
				t.Errorf("the text of item %d shares memory", i)
			}
		}
		for _, other := range texts {
			if sharesBytes(item.Name, other) {
				t.Errorf("the name of item %d shares memory", i)
			}
		}
		texts = append(texts, item.Name, item.Text)
	}
	if sharesBytes(record, name) || sharesBytes(record, text) {
		t.Error("a record shares memory")
	}
}

func TestPoolsKeepTheirMemory(t *testing.T) {
	r := newSource(36)
	spare := []impl.Frame{{House: mark}, {House: mark}}
	for range 1000 {
		p := somePool(r)
		whole := slices.Concat(p.Frames, spare)
		watched := impl.Pool{Frames: whole[:8], Hand: p.Hand}
		house, place := r.Intn(3), r.Intn(10)-1
		impl.PoolOk(watched)
		impl.PoolOf(watched, house)
		taken, _, _ := impl.PoolTake(watched, house, 1+r.Intn(5), r.Intn(7))
		let, _ := impl.PoolLet(watched, place)
		dropped := impl.PoolDrop(watched, r.Intn(5))
		for _, answer := range []impl.Pool{taken, let, dropped} {
			frames := answer.Frames[:cap(answer.Frames)]
			for i := range frames {
				frames[i] = impl.Frame{House: 5555}
			}
		}
		if !slices.Equal(whole, slices.Concat(p.Frames, spare)) {
			t.Fatalf("a pool was written into, or is shared: %#v", whole)
		}
	}
}

func TestJobsKeepTheirMemory(t *testing.T) {
	list := []impl.Job{{Id: 1, Worth: 1}, {Id: 2, Worth: 5}, {Id: 3, Worth: 9}, {Id: 4, Worth: 2}, {Id: mark}}
	was := slices.Clone(list)
	impl.JobNext(list[:4], 9)
	if !slices.Equal(list, was) {
		t.Errorf("jobs were written into: %#v", list)
	}
}
