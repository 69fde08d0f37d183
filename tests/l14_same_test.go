package tests

import (
	"runtime"
	"slices"
	"sync"
	"testing"
	"time"

	"loop.example/wellhead/impl"
)

// worldCall is one call of each function that lets something happen, with what it answers.
type worldCall struct {
	done    impl.World
	can     bool
	calm    impl.World
	played  impl.World
	session string
	board   string
	asked   [3]bool
}

func callAll(w impl.World, list []impl.Event, lines []string) worldCall {
	var call worldCall
	call.done, call.can = impl.WorldDo(w, list[0])
	call.calm, call.played, call.session, call.board = impl.WorldCalm(w, 1), impl.WorldPlay(list), impl.WorldSession(lines), impl.WorldBoard(w)
	call.asked = [3]bool{impl.WorldOk(w), impl.WorldSafe(w), impl.WorldStill(w)}
	return call
}

func (c worldCall) same(other worldCall) bool {
	return sameWorld(c.done, other.done) && c.can == other.can && sameWorld(c.calm, other.calm) && sameWorld(c.played, other.played) && c.session == other.session && c.board == other.board && c.asked == other.asked
}

// The same calls answer the same each time, one behind the other and at the same time, of one world that all of them are given.
func TestTheSameCallAnswersTheSame(t *testing.T) {
	for seed := range 6 {
		r := newSource(int64(1450 + seed))
		w, list := someWorld(r), someEvents(r, 100)
		var lines []string
		for range 60 {
			lines = append(lines, someLine(r))
		}
		was, first := copyWorld(w), callAll(w, list, lines)
		for range 5 {
			if !callAll(w, list, lines).same(first) {
				t.Fatalf("seed %d: the same call answers something else", seed)
			}
		}
		var calls [8]worldCall
		var all sync.WaitGroup
		for i := range calls {
			all.Add(1)
			go func() {
				defer all.Done()
				calls[i] = callAll(w, list, lines)
			}()
		}
		all.Wait()
		for _, call := range calls {
			if !call.same(first) {
				t.Fatalf("seed %d: at the same time the same call answers something else", seed)
			}
		}
		if !sameWorld(w, was) {
			t.Fatalf("seed %d: a world was written into", seed)
		}
	}
}

// goroutinesEnd says whether there are soon no more than so many; one that has done its last is still counted for a moment.
func goroutinesEnd(most int) bool {
	for range 500 {
		if runtime.NumGoroutine() <= most {
			return true
		}
		time.Sleep(time.Millisecond)
	}
	return false
}

func TestNoGoroutineIsLeftBehind(t *testing.T) {
	bad := impl.World{}
	forged := sent(mustAll(t, impl.Event{Kind: impl.WorldOpen, Name: "a"}), true, []impl.Word{{Kind: impl.WordAccept, Client: 0, Try: 1, Edition: 2, Data: "20/8:1,3:2,3"}})
	calls := []func(){
		func() { impl.WorldPlay(nil) }, func() { impl.WorldPlay(make([]impl.Event, 401)) }, func() { impl.WorldPlay(oneOfEach()) }, func() { impl.WorldSession(nil) }, func() { impl.WorldSession([]string{"open 0 a", "calm 1", "text 0", "what"}) }, func() { impl.WorldNew() },
	}
	for _, w := range []impl.World{bad, newWorld(), busyWorld(t), downWorld(t, "1 b:more", 9), forged} {
		for _, rounds := range []int{-1, 0, 1} {
			calls = append(calls, func() { impl.WorldCalm(w, rounds) })
		}
		for _, e := range oneOfEach() {
			calls = append(calls, func() { impl.WorldDo(w, e) })
		}
		calls = append(calls, func() { impl.WorldOk(w) }, func() { impl.WorldSafe(w) }, func() { impl.WorldStill(w) }, func() { impl.WorldBoard(w) })
	}
	for i, call := range calls {
		ahead := runtime.NumGoroutine()
		for range 5 {
			call()
		}
		if !goroutinesEnd(ahead) {
			t.Fatalf("call %d leaves a goroutine behind", i)
		}
	}
}

// watchedWorld is a world with spare room everywhere, and a look at all of it.
type watchedWorld struct {
	world   impl.World
	server  watchedServer
	parts   []watchedClient
	clients []impl.Client
	radio   []impl.Packet
	given   []impl.Item
}

// The spare room of a world that is watched.
var (
	spareClients = []impl.Client{{Id: mark}, {Id: mark}}
	spareRadio   = []impl.Packet{{To: mark}, {To: mark}}
	spareGiven   = []impl.Item{{House: mark}, {House: mark}}
)

func watchWorld(w impl.World) watchedWorld {
	all := watchedWorld{server: watchServer(w.Server), radio: slices.Concat(w.Radio, spareRadio), given: slices.Concat(w.Given, spareGiven)}
	for _, c := range w.Clients {
		part := watchClient(c)
		all.parts, all.clients = append(all.parts, part), append(all.clients, part.client)
	}
	all.clients = append(all.clients, spareClients...)
	all.world = impl.World{Server: all.server.server, Clients: all.clients[:len(w.Clients)], Radio: all.radio[:len(w.Radio)], Given: all.given[:len(w.Given)]}
	return all
}

// asWas says whether nothing was written into the world, or behind an end.
func (all watchedWorld) asWas(w impl.World) bool {
	for i, c := range w.Clients {
		if !all.parts[i].asWas(c) {
			return false
		}
	}
	return sameWorld(all.world, w) && all.server.asWas(w.Server) && slices.EqualFunc(all.clients, slices.Concat(w.Clients, spareClients), sameClient) && slices.Equal(all.radio, slices.Concat(w.Radio, spareRadio)) && slices.Equal(all.given, slices.Concat(w.Given, spareGiven))
}

// spoilWorld writes into all lists of a world that was answered.
func spoilWorld(w impl.World) {
	spoilServer(w.Server)
	for _, c := range w.Clients {
		spoilClient(c)
	}
	spoilAll(w.Clients, impl.Client{Id: 5555})
	spoilAll(w.Radio, impl.Packet{To: 5555})
	spoilAll(w.Given, impl.Item{House: 5555})
}

// worldAnswers are all worlds that are answered.
func worldAnswers(w impl.World, e impl.Event) []impl.World {
	impl.WorldOk(w)
	impl.WorldSafe(w)
	impl.WorldStill(w)
	impl.WorldBoard(w)
	done, _ := impl.WorldDo(w, e)
	return []impl.World{done, impl.WorldCalm(w, 0), impl.WorldCalm(w, 1)}
}

func TestWorldsKeepTheirMemory(t *testing.T) {
	r := newSource(146)
	for range 150 {
		w := someWorld(r)
		for _, often := range storms() {
			e := someEvent(r, often)
			was, watched := copyWorld(w), watchWorld(w)
			answers := worldAnswers(watched.world, e)
			var copies []impl.World
			for _, answer := range answers {
				copies = append(copies, copyWorld(answer))
			}
			for i, answer := range answers {
				if !sameWorld(answer, copies[i]) {
					t.Fatalf("answer %d shares memory with another one", i)
				}
				spoilWorld(answer)
			}
			if !watched.asWas(was) {
				t.Fatalf("a world was written into, or is shared: %#v", watched)
			}
		}
	}
	spoilWorld(impl.WorldNew())
	spoilWorld(impl.WorldPlay(nil))
	if !sameWorld(impl.WorldNew(), newWorld()) {
		t.Error("WorldNew hands out memory that it keeps")
	}
}

// Each list of a world that is answered is written into, and all others are as they were.
func TestListsOfAWorldShareNoMemory(t *testing.T) {
	answers := func() []impl.World {
		put, _ := impl.WorldDo(busyWorld(t), impl.Event{Kind: impl.WorldPut, At: 1, Name: "b", Text: "more"})
		rises, _ := impl.WorldDo(downWorld(t, "1 b:more", 999), impl.Event{Kind: impl.WorldRise})
		stays, _ := impl.WorldDo(busyWorld(t), impl.Event{})
		return append(worldAnswers(busyWorld(t), impl.Event{Kind: impl.WorldBring}), put, rises, stays)
	}
	spoils := []func(w impl.World){
		func(w impl.World) { spoilCat(w.Server.Cat) }, func(w impl.World) { spoilAll(w.Given, impl.Item{House: 5555}) }, func(w impl.World) { spoilAll(w.Radio, impl.Packet{To: 5555}) }, func(w impl.World) { spoilAll(w.Server.Pool.Frames, impl.Frame{House: 5555}) }, func(w impl.World) { spoilAll(w.Server.Serves, impl.Serve{Client: 5555}) },
		func(w impl.World) { spoilClient(w.Clients[0]) }, func(w impl.World) { spoilClient(w.Clients[2]) },
	}
	clears := []func(w *impl.World){
		func(w *impl.World) { w.Server.Cat = impl.Cat{} }, func(w *impl.World) { w.Given = nil }, func(w *impl.World) { w.Radio = nil }, func(w *impl.World) { w.Server.Pool = impl.Pool{} }, func(w *impl.World) { w.Server.Serves = nil },
		func(w *impl.World) { w.Clients[0] = impl.Client{} }, func(w *impl.World) { w.Clients[2] = impl.Client{} },
	}
	for i := range spoils {
		want := answers()
		for j, got := range answers() {
			spoils[i](got)
			clears[i](&got)
			clears[i](&want[j])
			if !sameWorld(got, want[j]) {
				t.Errorf("answer %d: list %d shares memory with another one", j, i)
			}
		}
	}
}

// textsOfWorld are all texts of a world.
func textsOfWorld(w impl.World) []string {
	texts := textsOf(w.Server)
	for _, c := range w.Clients {
		texts = append(texts, c.Name)
		for _, eq := range c.Get.Solver.Eqs {
			texts = append(texts, eq.Data)
		}
	}
	for _, p := range w.Radio {
		texts = append(texts, p.Text)
	}
	for _, item := range w.Given {
		texts = append(texts, item.Name, item.Text)
	}
	return texts
}

func TestTextsOfWorldsAreNewMemory(t *testing.T) {
	for _, w := range []impl.World{busyWorld(t), downWorld(t, "1 b:more", 999), impl.WorldPlay(someEvents(newSource(147), 300))} {
		for kind := range 14 {
			for at := range 8 {
				e := impl.Event{Kind: kind, At: at, Name: string([]byte("abcdef")), Text: string([]byte("a thing of a house")), Num: 99}
				done, _ := impl.WorldDo(w, e)
				checkNewTexts(t, "WorldDo", textsOfWorld(done), append(textsOfWorld(w), e.Name, e.Text))
			}
		}
		for rounds := range 3 {
			checkNewTexts(t, "WorldCalm", textsOfWorld(impl.WorldCalm(w, rounds)), textsOfWorld(w))
		}
	}
	list := []impl.Event{{Kind: impl.WorldPut, Name: string([]byte("abcdef")), Text: string([]byte("a thing of a house"))}, {Kind: impl.WorldOpen, Name: string([]byte("abcdef"))}, {Kind: impl.WorldFall, Name: string([]byte("b")), Text: string([]byte("more"))}, {Kind: impl.WorldRise}}
	var given []string
	for _, e := range list {
		given = append(given, e.Name, e.Text)
	}
	was := slices.Clone(list)
	checkNewTexts(t, "WorldPlay", textsOfWorld(impl.WorldPlay(list)), given)
	if !slices.Equal(list, was) {
		t.Error("events were written into")
	}
	lines := []string{string([]byte("text 0"))}
	checkNewTexts(t, "WorldSession", []string{impl.WorldSession(lines), impl.WorldSession(nil)}, lines)
}
