package tests

import (
	"slices"
	"strings"
	"testing"
	"unsafe"

	"loop.example/wellhead/impl"
)

// mark stands in all spare room, to show what is written there.
const mark = -77

// roomy is a list with spare room behind its end, and the whole of it.
func roomy(list []int) ([]int, []int) {
	whole := slices.Concat(list, []int{mark, mark, mark, mark})
	return whole[:len(list)], whole
}

// spoil writes into all of a list that was answered, spare room included.
func spoil(list []int) {
	whole := list[:cap(list)]
	for i := range whole {
		whole[i] = 5555
	}
}

// spoilSolver writes into all lists of a solver that was answered.
func spoilSolver(s impl.Solver) {
	for _, eq := range s.Eqs {
		spoil(eq.Row)
	}
	whole := s.Eqs[:cap(s.Eqs)]
	for i := range whole {
		whole[i] = impl.Eq{Row: []int{5555}, Data: "spoilt"}
	}
}

// watched is a solver with spare room everywhere, and a look at all of it.
type watched struct {
	solver impl.Solver
	eqs    []impl.Eq
	rows   [][]int
}

func watch(s impl.Solver) watched {
	w := watched{solver: s}
	for _, eq := range s.Eqs {
		row, whole := roomy(eq.Row)
		w.rows = append(w.rows, whole)
		w.eqs = append(w.eqs, impl.Eq{Row: row, Data: eq.Data})
	}
	w.eqs = append(w.eqs, impl.Eq{Data: "spare"}, impl.Eq{Data: "spare"})
	w.solver.Eqs = w.eqs[:len(s.Eqs):len(w.eqs)]
	return w
}

// asWas says whether nothing was written into the solver, or behind an end.
func (w watched) asWas(s impl.Solver) bool {
	for i, eq := range s.Eqs {
		if !slices.Equal(w.rows[i], slices.Concat(eq.Row, []int{mark, mark, mark, mark})) {
			return false
		}
	}
	spare := []impl.Eq{{Data: "spare"}, {Data: "spare"}}
	return sameSolver(w.solver, s) && sameEqs(w.eqs, slices.Concat(s.Eqs, spare))
}

func TestRowsKeepTheirMemory(t *testing.T) {
	r := newSource(31)
	for range 100 {
		rowA, rowB := someRow(r, 24), someRow(r, 24)
		a, wholeA := roomy(rowA)
		b, wholeB := roomy(rowB)
		blocks := someBlocks(r, 24, 3)
		wasBlocks := slices.Clone(blocks)
		impl.RowOk(a, 24)
		impl.RowSum(blocks, a)
		got := impl.RowXor(a, b)
		again := impl.RowXor(a, b)
		spoil(got)
		if !slices.Equal(again, wantXor(rowA, rowB)) {
			t.Fatal("two answers of RowXor share memory")
		}
		marks := []int{mark, mark, mark, mark}
		if !slices.Equal(wholeA, slices.Concat(rowA, marks)) || !slices.Equal(wholeB, slices.Concat(rowB, marks)) || !slices.Equal(blocks, wasBlocks) {
			t.Fatalf("a row or blocks were written into: %v %v", wholeA, wholeB)
		}
	}
}

// With nothing on one side the other one is the answer, but not its memory.
func TestRowXorWithNothingIsNewMemory(t *testing.T) {
	row, whole := roomy([]int{1, 4})
	spoil(impl.RowXor(row, nil))
	spoil(impl.RowXor(nil, row))
	if !slices.Equal(whole, []int{1, 4, mark, mark, mark, mark}) {
		t.Errorf("RowXor shares memory: %v", whole)
	}
}

func TestSolversKeepTheirMemory(t *testing.T) {
	r := newSource(32)
	for range 300 {
		blocks := someBlocks(r, 6, 2)
		s, o := someSolver(t, r, blocks), someSolver(t, r, blocks)
		eq := someEq(r, blocks)
		if r.Intn(5) == 0 {
			eq.Row = []int{6} // a code by which it stays
		}
		wasS, wasO := copySolver(s), copySolver(o)
		watchS, watchO := watch(s), watch(o)
		row, whole := roomy(eq.Row)
		impl.SolverOk(watchS.solver)
		impl.SolverRank(watchS.solver)
		impl.SolverPrefix(watchS.solver)
		impl.SolverGet(watchS.solver, 0)
		impl.SolverSays(watchS.solver, row)
		added, _ := impl.SolverAdd(watchS.solver, row, eq.Data)
		joined, _ := impl.SolverJoin(watchS.solver, watchO.solver)
		spoilSolver(added)
		spoilSolver(joined)
		if !watchS.asWas(wasS) || !watchO.asWas(wasO) || !slices.Equal(whole, slices.Concat(eq.Row, []int{mark, mark, mark, mark})) {
			t.Fatalf("an argument was written into, or is shared: %#v %#v %v", watchS, watchO, whole)
		}
	}
}

func TestRowsOfAnAnswerShareNoMemory(t *testing.T) {
	s := impl.SolverNew(6, 1)
	for _, row := range [][]int{{0, 3, 4}, {1, 4, 5}, {2, 5}} {
		s = mustAdd(t, s, row, "a")
	}
	for i := range s.Eqs {
		answer, _ := impl.SolverAdd(s, nil, "\x00")
		spoil(answer.Eqs[i].Row)
		for j, eq := range answer.Eqs {
			if j != i && !slices.Equal(eq.Row, s.Eqs[j].Row) {
				t.Errorf("row %d and row %d share memory", i, j)
			}
		}
	}
}

func TestDrawsAreNewMemory(t *testing.T) {
	wasDegrees, wasRow := slices.Clone(impl.Degrees(5)), slices.Clone(impl.RowDraw(10, 3))
	spoil(impl.Degrees(5))
	spoil(impl.RowDraw(10, 3))
	if !slices.Equal(impl.Degrees(5), wasDegrees) || !slices.Equal(impl.RowDraw(10, 3), wasRow) {
		t.Error("Degrees or RowDraw hand out memory that they keep")
	}
}

// spoilPlan writes into all lists of a plan that was answered.
func spoilPlan(p impl.Plan) {
	spoil(p.Windows)
	spoil(p.Weights)
}

// watchedPlan is a plan with spare room, and a look at all of it.
type watchedPlan struct {
	plan             impl.Plan
	windows, weights []int
}

func watchPlan(p impl.Plan) watchedPlan {
	w := watchedPlan{plan: p}
	w.plan.Windows, w.windows = roomy(p.Windows)
	w.plan.Weights, w.weights = roomy(p.Weights)
	return w
}

// asWas says whether nothing was written into the plan, or behind an end.
func (w watchedPlan) asWas(p impl.Plan) bool {
	marks := []int{mark, mark, mark, mark}
	return samePlan(w.plan, p) && slices.Equal(w.windows, slices.Concat(p.Windows, marks)) && slices.Equal(w.weights, slices.Concat(p.Weights, marks))
}

func TestPlansKeepTheirMemory(t *testing.T) {
	r := newSource(33)
	for range 200 {
		p := somePlan(r)
		was, w := copyPlan(p), watchPlan(p)
		text := someText(r, p.Long)
		impl.PlanOk(w.plan)
		impl.PlanCount(w.plan)
		impl.PlanSymbol(w.plan, text, 30)
		impl.PlanWrite(w.plan)
		blocks := impl.PlanCut(w.plan, text)
		spoil(impl.PlanRow(w.plan, 0))
		spoil(impl.PlanRow(w.plan, 30))
		g := impl.GetNew(w.plan)
		spoilPlan(g.Plan)
		spoilSolver(g.Solver)
		if !w.asWas(was) {
			t.Fatalf("a plan was written into, or is shared: %#v", w)
		}
		for i := range blocks[:cap(blocks)] {
			blocks[:cap(blocks)][i] = "spoilt"
		}
		if again := impl.PlanCut(w.plan, text); strings.Join(again, "")[:p.Long] != text {
			t.Fatal("two answers of PlanCut share memory")
		}
	}
}

// The two lists of a plan that is answered are written into, one after the other.
func TestListsOfAPlanShareNoMemory(t *testing.T) {
	want := impl.Plan{Long: 60, Size: 8, Windows: []int{2, 8}, Weights: []int{2, 3}}
	answers := func() []impl.Plan {
		read, _ := impl.PlanRead("60/8:2,8:2,3")
		g := impl.GetNew(want)
		added, _ := impl.GetAdd(g, 0, "12345678")
		stayed, _ := impl.GetAdd(g, -1, "12345678")
		return []impl.Plan{impl.PlanFor(60), read, g.Plan, added.Plan, stayed.Plan}
	}
	for i, p := range answers() {
		spoil(p.Windows)
		if !slices.Equal(p.Weights, want.Weights) {
			t.Errorf("answer %d: windows and weights share memory", i)
		}
	}
	for i, p := range answers() {
		spoil(p.Weights)
		if !slices.Equal(p.Windows, want.Windows) {
			t.Errorf("answer %d: weights and windows share memory", i)
		}
	}
	for i, p := range answers() {
		if !samePlan(p, want) {
			t.Errorf("answer %d is memory that is kept: %#v", i, p)
		}
	}
}

func TestGettingsKeepTheirMemory(t *testing.T) {
	r := newSource(34)
	for range 200 {
		p := somePlan(r)
		text := someText(r, p.Long)
		g := someGetting(t, r, p, text)
		id := []int{-1, 0, 30, impl.IdMax, impl.IdMax + 1}[r.Intn(5)]
		data, _ := impl.PlanSymbol(p, text, id)
		was := copyGetting(g)
		plan, solver := watchPlan(g.Plan), watch(g.Solver)
		watched := impl.Getting{Plan: plan.plan, Solver: solver.solver}
		impl.GetOk(watched)
		impl.GetWindows(watched)
		impl.GetText(watched)
		impl.GetDone(watched)
		impl.GetWant(watched, 0)
		added, _ := impl.GetAdd(watched, id, data)
		spoilPlan(added.Plan)
		spoilSolver(added.Solver)
		if !plan.asWas(was.Plan) || !solver.asWas(was.Solver) {
			t.Fatalf("what is known was written into, or is shared: %#v %#v", plan, solver)
		}
	}
}

// sharesBytes says whether two texts have bytes in the same memory.
func sharesBytes(a string, b string) bool {
	if a == "" || b == "" {
		return false
	}
	startA, startB := uintptr(unsafe.Pointer(unsafe.StringData(a))), uintptr(unsafe.Pointer(unsafe.StringData(b)))
	return startA < startB+uintptr(len(b)) && startB < startA+uintptr(len(a))
}

func TestTextsAreNewMemory(t *testing.T) {
	thing := strings.Repeat("abcdefgh", 2)
	p := impl.PlanFor(len(thing))
	for id, block := range impl.PlanCut(p, thing) {
		symbol, _ := impl.PlanSymbol(p, thing, id)
		if sharesBytes(block, thing) || sharesBytes(symbol, thing) {
			t.Errorf("block %d shares the memory of the thing", id)
		}
		g, _ := impl.GetAdd(impl.GetNew(p), id, block)
		if sharesBytes(g.Solver.Eqs[0].Data, block) || sharesBytes(impl.GetText(g), g.Solver.Eqs[0].Data) {
			t.Errorf("what is known of block %d shares memory", id)
		}
	}
	for _, w := range []impl.Word{{Kind: impl.WordOpen, Try: 1, Name: "abc"}, {Kind: impl.WordSymbol, Try: 1, Edition: 1, Data: "data"}} {
		text := impl.WordWrite(w)
		read, _ := impl.WordRead(text)
		if sharesBytes(read.Name, text) || sharesBytes(read.Data, text) || sharesBytes(text, w.Data) {
			t.Errorf("%#v shares the memory of its text", read)
		}
	}
}

func TestLogsAreNewMemory(t *testing.T) {
	record := strings.Repeat("r", 40)
	log := mustLog(t, mustLog(t, "", "first"), record)
	records, _ := impl.LogRead(log)
	for _, read := range records {
		if sharesBytes(read, log) {
			t.Errorf("the record %q shares the memory of its log", read)
		}
	}
	torn := log[:len(log)-1]
	for _, answer := range []string{impl.LogMend(log), impl.LogMend(torn), impl.LogTorn(log, record, 0), impl.LogTorn(log, record, 9), impl.LogTorn(log, "", 9), impl.LogTorn(torn, record, 9), mustLog(t, log, record)} {
		if sharesBytes(answer, log) || sharesBytes(answer, record) {
			t.Errorf("%q shares the memory of the log", answer)
		}
	}
	records[0], records[:cap(records)][cap(records)-1] = "spoilt", "spoilt"
	if again, _ := impl.LogRead(log); !slices.Equal(again, []string{"first", record}) {
		t.Error("two answers of LogRead share memory")
	}
}

// watchedCat is a catalogue with spare room, and a look at all of it.
type watchedCat struct {
	cat   impl.Cat
	items []impl.Item
}

func watchCat(c impl.Cat) watchedCat {
	w := watchedCat{cat: c, items: slices.Concat(c.Items, []impl.Item{{House: mark}, {House: mark}})}
	w.cat.Items = w.items[:len(c.Items)]
	return w
}

// asWas says whether nothing was written into the catalogue, or behind its end.
func (w watchedCat) asWas(c impl.Cat) bool {
	return sameCat(w.cat, c) && slices.Equal(w.items, slices.Concat(c.Items, []impl.Item{{House: mark}, {House: mark}}))
}

// spoilCat writes into all of a catalogue that was answered, spare room included.
func spoilCat(c impl.Cat) {
	whole := c.Items[:cap(c.Items)]
	for i := range whole {
		whole[i] = impl.Item{House: 5555, Name: "spoilt"}
	}
}

func TestCatsKeepTheirMemory(t *testing.T) {
	r := newSource(35)
	for range 500 {
		c := someCat(r)
		was, w := copyCat(c), watchCat(c)
		house, name, text := r.Intn(3), catNames()[r.Intn(10)], strings.Repeat("x", r.Intn(4))
		impl.CatOk(w.cat)
		impl.CatGet(w.cat, house, name)
		impl.CatEdition(w.cat, 1)
		impl.CatBytes(w.cat, house)
		put, _ := impl.CatPut(w.cat, house, name, text)
		taken, _ := impl.CatTake(w.cat, house, name)
		spoilCat(put)
		spoilCat(taken)
		if !w.asWas(was) {
			t.Fatalf("a catalogue was written into, or is shared: %#v", w)
		}
	}
	records := []string{"0 a:x", "0 b:y", "0 a:", "1 a:z", "spare"}
	was := slices.Clone(records)
	c, _ := impl.CatOf(records[:4])
	spoilCat(c)
	if again, ok := impl.CatOf(records[:4]); !slices.Equal(records, was) || !ok || len(again.Items) != 2 || again.Items[0].Name != "b" {
		t.Errorf("records were written into, or CatOf hands out what it keeps: %q %#v", records, again)
	}
}

func TestTextsOfCatsAreNewMemory(t *testing.T) {
	name, text := strings.Repeat("n", 6), strings.Repeat("t", 60)
	c, _ := impl.CatPut(impl.Cat{}, 1, name, text)
	record := impl.CatRecord(1, name, text)
	read, _ := impl.CatOf([]string{record})
	more, _ := impl.CatPut(c, 0, "a", "x")
	stays, _ := impl.CatPut(c, 0, "", "x")
	less, _ := impl.CatTake(more, 0, "a")
	got, _ := impl.CatGet(c, 1, name)
	edition, _ := impl.CatEdition(c, 1)
	items := []impl.Item{c.Items[0], read.Items[0], more.Items[1], stays.Items[0], less.Items[0], got, edition}
	texts := []string{name, text, record}
	for i, item := range items {
		for _, other := range append(texts, item.Name) {
			if sharesBytes(item.Text, other) {
				t.Errorf("the text of item %d shares memory", i)
			}
		}
		for _, other := range texts {
			if sharesBytes(item.Name, other) {
				t.Errorf("the name of item %d shares memory", i)
			}
		}
		texts = append(texts, item.Name, item.Text)
	}
	if sharesBytes(record, name) || sharesBytes(record, text) {
		t.Error("a record shares memory")
	}
}

func TestPoolsKeepTheirMemory(t *testing.T) {
	r := newSource(36)
	spare := []impl.Frame{{House: mark}, {House: mark}}
	for range 1000 {
		p := somePool(r)
		whole := slices.Concat(p.Frames, spare)
		watched := impl.Pool{Frames: whole[:8], Hand: p.Hand}
		house, place := r.Intn(3), r.Intn(10)-1
		impl.PoolOk(watched)
		impl.PoolOf(watched, house)
		taken, _, _ := impl.PoolTake(watched, house, 1+r.Intn(5), r.Intn(7))
		let, _ := impl.PoolLet(watched, place)
		dropped := impl.PoolDrop(watched, r.Intn(5))
		for _, answer := range []impl.Pool{taken, let, dropped} {
			frames := answer.Frames[:cap(answer.Frames)]
			for i := range frames {
				frames[i] = impl.Frame{House: 5555}
			}
		}
		if !slices.Equal(whole, slices.Concat(p.Frames, spare)) {
			t.Fatalf("a pool was written into, or is shared: %#v", whole)
		}
	}
}

func TestJobsKeepTheirMemory(t *testing.T) {
	list := []impl.Job{{Id: 1, Worth: 1}, {Id: 2, Worth: 5}, {Id: 3, Worth: 9}, {Id: 4, Worth: 2}, {Id: mark}}
	was := slices.Clone(list)
	impl.JobNext(list[:4], 9)
	if !slices.Equal(list, was) {
		t.Errorf("jobs were written into: %#v", list)
	}
}

// watchedServer is a server with spare room everywhere, and a look at all of it.
type watchedServer struct {
	server  impl.Server
	cat     watchedCat
	frames  []impl.Frame
	buckets []impl.Bucket
	serves  []impl.Serve
}

// The spare room of a server that is watched.
var (
	spareFrames  = []impl.Frame{{House: mark}, {House: mark}}
	spareBuckets = []impl.Bucket{{Level: mark}, {Level: mark}}
	spareServes  = []impl.Serve{{Client: mark}, {Client: mark}}
)

func watchServer(s impl.Server) watchedServer {
	w := watchedServer{server: s, cat: watchCat(s.Cat), frames: slices.Concat(s.Pool.Frames, spareFrames), buckets: slices.Concat(s.Buckets, spareBuckets), serves: slices.Concat(s.Serves, spareServes)}
	w.server.Cat = w.cat.cat
	w.server.Pool.Frames, w.server.Buckets, w.server.Serves = w.frames[:len(s.Pool.Frames)], w.buckets[:len(s.Buckets)], w.serves[:len(s.Serves)]
	return w
}

// asWas says whether nothing was written into the server, or behind an end.
func (w watchedServer) asWas(s impl.Server) bool {
	return sameServer(w.server, s) && w.cat.asWas(s.Cat) && slices.Equal(w.frames, slices.Concat(s.Pool.Frames, spareFrames)) && slices.Equal(w.buckets, slices.Concat(s.Buckets, spareBuckets)) && slices.Equal(w.serves, slices.Concat(s.Serves, spareServes))
}

// spoilAll writes into all of a list that was answered, spare room included.
func spoilAll[T any](list []T, spoilt T) {
	whole := list[:cap(list)]
	for i := range whole {
		whole[i] = spoilt
	}
}

// spoilServer writes into all lists of a server that was answered.
func spoilServer(s impl.Server) {
	spoilCat(s.Cat)
	spoilAll(s.Pool.Frames, impl.Frame{House: 5555})
	spoilAll(s.Buckets, impl.Bucket{Level: 5555})
	spoilAll(s.Serves, impl.Serve{Client: 5555})
}

// serverAnswers are all servers and words that are answered, of a server, a word and a record; the last one is what rises behind a fall.
func serverAnswers(s impl.Server, w impl.Word, house int, name string, text string, bytes int) ([]impl.Server, [][]impl.Word) {
	impl.ServerOk(s)
	put, _ := impl.ServerPut(s, house, name, text)
	taken, _ := impl.ServerTake(s, house, name)
	heard, answer := impl.ServerHear(s, w)
	ticked, told := impl.ServerTick(s)
	fallen := impl.ServerFall(s, impl.CatRecord(house, name, text), bytes)
	return []impl.Server{put, taken, heard, ticked, fallen, impl.ServerRise(s), impl.ServerRise(fallen)}, [][]impl.Word{answer, told}
}

func TestServersKeepTheirMemory(t *testing.T) {
	r := newSource(37)
	for range 500 {
		s := anyServer(r)
		was, w := copyServer(s), watchServer(s)
		servers, words := serverAnswers(w.server, someServeWord(r, s), r.Intn(3), someName(r), serveTexts()[r.Intn(10)], r.Intn(50))
		var copies []impl.Server
		for _, answer := range servers {
			copies = append(copies, copyServer(answer))
		}
		for i, answer := range servers {
			if !sameServer(answer, copies[i]) {
				t.Fatalf("answer %d shares memory with another one: %#v", i, answer)
			}
			spoilServer(answer)
		}
		for _, list := range words {
			spoilAll(list, impl.Word{Kind: 5555})
		}
		if !w.asWas(was) {
			t.Fatalf("a server was written into, or is shared: %#v", w)
		}
	}
	spoilServer(impl.ServerNew())
	if !impl.ServerOk(impl.ServerNew()) {
		t.Error("ServerNew hands out memory that it keeps")
	}
}

// textsOf are all texts of a server.
func textsOf(s impl.Server) []string {
	texts := []string{s.Log}
	for _, item := range s.Cat.Items {
		texts = append(texts, item.Name, item.Text)
	}
	return texts
}

// textsOfWords are all texts of words.
func textsOfWords(words []impl.Word) []string {
	var texts []string
	for _, w := range words {
		texts = append(texts, w.Name, w.Data)
	}
	return texts
}

// checkNewTexts says of each text of an answer that no argument, and no other one of it, has its bytes.
func checkNewTexts(t *testing.T, what string, answer []string, given []string) {
	t.Helper()
	for i, text := range answer {
		for _, other := range append(slices.Clone(given), answer[:i]...) {
			if sharesBytes(text, other) {
				t.Errorf("%s: %q shares memory with %q", what, text, other)
			}
		}
	}
}

func TestTextsOfServersAreNewMemory(t *testing.T) {
	name, text := strings.Repeat("n", 6), strings.Repeat("t", 60)
	torn := impl.ServerFall(busyServer(), "0 c:more", 9)
	for _, s := range []impl.Server{busyServer(), torn, impl.ServerFall(busyServer(), "", 0), turned(func(s *impl.Server) { s.Now = 99999 })} {
		for _, house := range []int{0, 1, 2} { // the last one has a code
			w := impl.Word{Kind: impl.WordOpen, Client: 1, Try: 9, Name: strings.Repeat("a", 1+house)}
			given := append(textsOf(s), name, text, w.Name)
			servers, words := serverAnswers(s, w, house, name, text, 999)
			for i, answer := range servers {
				all := textsOf(answer)
				if i == 2 || i == 3 {
					all = append(all, textsOfWords(words[i-2])...)
				}
				checkNewTexts(t, "a server", all, given)
			}
		}
	}
}

// watchedClient is a client with spare room everywhere, and a look at all of it.
type watchedClient struct {
	client impl.Client
	plan   watchedPlan
	solver watched
}

func watchClient(c impl.Client) watchedClient {
	w := watchedClient{client: c, plan: watchPlan(c.Get.Plan), solver: watch(c.Get.Solver)}
	w.client.Get = impl.Getting{Plan: w.plan.plan, Solver: w.solver.solver}
	return w
}

// asWas says whether nothing was written into the client, or behind an end.
func (w watchedClient) asWas(c impl.Client) bool {
	return sameClient(w.client, c) && w.plan.asWas(c.Get.Plan) && w.solver.asWas(c.Get.Solver)
}

// spoilClient writes into all lists of a client that was answered.
func spoilClient(c impl.Client) {
	spoilPlan(c.Get.Plan)
	spoilSolver(c.Get.Solver)
}

// clientAnswers are all clients and words that are answered, of a client, a name and a word.
func clientAnswers(c impl.Client, name string, w impl.Word) ([]impl.Client, [][]impl.Word) {
	impl.ClientOk(c)
	impl.ClientText(c)
	opened, asks := impl.ClientOpen(c, name)
	again, rest := impl.ClientAgain(c)
	stopped, done := impl.ClientStop(c)
	heard, answer := impl.ClientHear(c, w)
	return []impl.Client{opened, again, stopped, heard}, [][]impl.Word{asks, rest, done, answer, impl.ClientTick(c)}
}

func TestClientsKeepTheirMemory(t *testing.T) {
	r := newSource(38)
	for range 1500 {
		c, text := someClient(t, r)
		was, w := copyClient(c), watchClient(c)
		clients, words := clientAnswers(w.client, []string{"a", "", "toolong"}[r.Intn(3)], someClientWord(r, c, text))
		for _, answer := range clients {
			spoilClient(answer)
		}
		for _, list := range words {
			spoilAll(list, impl.Word{Kind: 5555})
		}
		if !w.asWas(was) {
			t.Fatalf("a client was written into, or is shared: %#v", w)
		}
	}
}

// Each list of a client that is answered is written into, and all others are as they were.
func TestListsOfAClientShareNoMemory(t *testing.T) {
	c := knowing(t, 2, 1, 2)
	for _, w := range []impl.Word{{}, {Kind: impl.WordSymbol, Client: 2, Try: 3, Edition: 5, Num: 7, Data: mustSymbol(t, impl.PlanFor(20), foxText, 7)}, {Kind: impl.WordGone, Client: 2, Try: 3, Edition: 5}} {
		clients, _ := clientAnswers(c, "", w)
		for i := range clients {
			for list := range 5 {
				answers, _ := clientAnswers(c, "", w)
				got, want := answers[i], copyClient(clients[i])
				lists, wants := intLists(got), intLists(want)
				if list >= len(lists) {
					continue
				}
				spoil(lists[list])
				for j := range lists {
					if j != list && !slices.Equal(lists[j], wants[j]) {
						t.Errorf("list %d and list %d of answer %d share memory", list, j, i)
					}
				}
			}
		}
	}
}

// intLists are all lists of numbers that a client has.
func intLists(c impl.Client) [][]int {
	lists := [][]int{c.Get.Plan.Windows, c.Get.Plan.Weights}
	for _, eq := range c.Get.Solver.Eqs {
		lists = append(lists, eq.Row)
	}
	return lists
}

func TestTextsOfClientsAreNewMemory(t *testing.T) {
	textsOf := func(c impl.Client) []string {
		texts := []string{c.Name}
		for _, eq := range c.Get.Solver.Eqs {
			texts = append(texts, eq.Data)
		}
		return texts
	}
	name := strings.Repeat("n", 6)
	for _, c := range []impl.Client{knowing(t, 1), knowing(t, 1, 0), knowing(t, 2, 0), knowing(t, 2, 2, 1), knowing(t, 3, 0, 1, 2), knowing(t, 4, 0)} {
		c.Name = strings.Repeat("o", 5)
		for _, w := range []impl.Word{{}, {Kind: impl.WordAccept, Client: 2, Try: 3, Edition: 5, Data: strings.Repeat("20/8:1,3:2,3", 1)}, {Kind: impl.WordSymbol, Client: 2, Try: 3, Edition: 5, Num: 1, Data: mustSymbol(t, impl.PlanFor(20), foxText, 1)}, {Kind: impl.WordGone, Client: 2, Try: 3, Edition: 5}} {
			given := append(textsOf(c), name, w.Name, w.Data)
			clients, words := clientAnswers(c, name, w)
			for i, answer := range clients {
				checkNewTexts(t, "a client", append(textsOf(answer), textsOfWords(words[i])...), given)
			}
			checkNewTexts(t, "ClientTick", textsOfWords(words[4]), given)
			checkNewTexts(t, "ClientText", []string{impl.ClientText(c)}, given)
		}
	}
}
