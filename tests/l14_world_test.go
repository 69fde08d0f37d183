package tests

import (
	"slices"
	"strings"
	"testing"

	"loop.example/wellhead/impl"
)

// givenBy are all things that records gave out, by their editions.
func givenBy(records []string) []impl.Item {
	var given []impl.Item
	for upTo := range records {
		said, _ := catSaid(records[:upTo+1])
		if item, there := itemOf(said, len(given)+1); there {
			given = append(given, item)
		}
	}
	return given
}

// busyWorld is up, and all of it is something: clients stand in all ways, words of all kinds and none are under way.
func busyWorld(t *testing.T) impl.World {
	t.Helper()
	w := impl.World{Server: busyServer(), Given: givenBy(busyRecords())}
	w.Clients = []impl.Client{knowing(t, 2, 0), {Id: 1, Try: 1, Stands: 1, Name: "a"}, knowing(t, 3, 0, 1, 2), {Id: 3, Try: 9, Stands: 4, Name: "c", Edition: 4, Get: impl.GetNew(impl.PlanFor(9))}}
	w.Clients[0].Id, w.Clients[0].Try, w.Clients[0].Edition, w.Clients[2].Edition = 0, 2, 1, 1
	for _, word := range []impl.Word{
		{Kind: impl.WordSymbol, Client: 0, Try: 2, Edition: 1, Num: 1, Data: "xjumpsov"}, {Kind: impl.WordAccept, Client: 1, Try: 1, Edition: 3, Data: "16/8:1,2:2,3"}, {Kind: impl.WordSymbol, Client: 2, Try: 3, Edition: 1, Num: 2, Data: "erit\x00\x00\x00\x00"}, {Kind: impl.WordGone, Client: 0, Try: 2, Edition: 1},
	} {
		w = sent(w, true, []impl.Word{word})
	}
	for _, word := range []impl.Word{{Kind: impl.WordOpen, Client: 1, Try: 2, Name: "a"}, {Kind: impl.WordKnown, Client: 0, Try: 2, Edition: 1, Num: 2}, {Kind: impl.WordDone, Client: 3, Try: 99999, Edition: 4}} {
		w = sent(w, false, []impl.Word{word})
	}
	w.Radio = append(w.Radio, impl.Packet{To: 3}, impl.Packet{To: 9, Text: "no word"}, impl.Packet{To: 1, Text: strings.Repeat("\x00", 160), Spoil: true})
	return w
}

// downWorld is busyWorld behind a fall while it wrote a record, of which so many bytes came.
func downWorld(t *testing.T, record string, bytes int) impl.World {
	w := busyWorld(t)
	w.Server = wantFall(w.Server, record, bytes)
	return w
}

// turnedWorld is busyWorld with one change.
func turnedWorld(t *testing.T, change func(w *impl.World)) impl.World {
	w := busyWorld(t)
	change(&w)
	return w
}

// edgeWorlds are ok, each at a limit.
func edgeWorlds(t *testing.T) []impl.World {
	t.Helper()
	worlds := []impl.World{newWorld(), busyWorld(t), downWorld(t, "", 0), downWorld(t, "1 b:more", 9), downWorld(t, "1 b:more", 999), downWorld(t, "1 a:", 999)}
	for _, s := range edgeServers(t) {
		records, _ := wantRead(s.Log)
		worlds = append(worlds, impl.World{Server: s, Clients: newWorld().Clients, Given: givenBy(records)})
	}
	for _, change := range []func(w *impl.World){
		func(w *impl.World) { w.Clients[0].Edition = 4 }, func(w *impl.World) { w.Radio = nil }, func(w *impl.World) { w.Radio = make([]impl.Packet, 60) }, func(w *impl.World) { w.Radio = slices.Repeat(w.Radio, 6) },
		func(w *impl.World) { w.Radio[0].To = 9 }, func(w *impl.World) { w.Radio[4].To = 0 }, func(w *impl.World) { w.Radio[4].To = 3 }, func(w *impl.World) { w.Radio[0].Text = strings.Repeat("x", 160) }, func(w *impl.World) { w.Radio[0].Spoil = true },
		// Edition 4 is given out no more: how it was is told by Given alone.
		func(w *impl.World) { w.Given[3] = impl.Item{House: 0, Name: "zzzzzz", Edition: 4, Text: "\x00"} }, func(w *impl.World) { w.Given[3].Text = strings.Repeat("x", 300) }, func(w *impl.World) { w.Given[3] = w.Given[0]; w.Given[3].Edition = 4 },
		// Down, Given may be one fewer.
		func(w *impl.World) {
			*w = downWorld(t, "1 b:more", 999)
			w.Server.Log += "torn"
		},
		func(w *impl.World) {
			records := busyRecords()[:4]
			w.Server = impl.Server{Log: logOf(records)}
			w.Given = givenBy(records)[:3]
			w.Clients[3] = impl.Client{Id: 3}
		},
		func(w *impl.World) {
			*w = impl.World{Server: impl.Server{Log: logOf([]string{"0 a:x"})}, Clients: newWorld().Clients}
		},
		// Also of a thing that is gone again.
		func(w *impl.World) {
			*w = impl.World{Server: impl.Server{Log: logOf([]string{"0 a:x", "0 a:"})}, Clients: newWorld().Clients}
		},
	} {
		worlds = append(worlds, turnedWorld(t, change))
	}
	return worlds
}

// badGiven are worlds whose Given are not what there was.
func badGiven(t *testing.T) []impl.World {
	var bad []impl.World
	for _, change := range []func(w *impl.World){
		func(w *impl.World) { w.Given = nil }, func(w *impl.World) { w.Given = w.Given[1:] }, func(w *impl.World) { w.Given[0], w.Given[1] = w.Given[1], w.Given[0] },
		func(w *impl.World) {
			w.Given = append(w.Given, impl.Item{House: 1, Name: "b", Edition: 5, Text: "more"})
		},
		func(w *impl.World) {
			w.Given = append(w.Given, impl.Item{House: 1, Name: "b", Edition: 5, Text: "more"}, impl.Item{House: 1, Name: "d", Edition: 6, Text: "more"})
		},
		func(w *impl.World) { w.Given = w.Given[:2]; w.Clients = newWorld().Clients },
		func(w *impl.World) { w.Given[0].Text = "theredfoxjumpsoverat" }, func(w *impl.World) { w.Given[1].Text += "x" }, func(w *impl.World) { w.Given[1].Text = w.Given[1].Text[:299] }, func(w *impl.World) { w.Given[2].Name = "b" }, func(w *impl.World) { w.Given[2].House = 0 },
		func(w *impl.World) { w.Given[3].House = 2 }, func(w *impl.World) { w.Given[3].House = -1 }, func(w *impl.World) { w.Given[3].House = tooBig }, func(w *impl.World) { w.Given[3].Name = "" }, func(w *impl.World) { w.Given[3].Name = "toolong" }, func(w *impl.World) { w.Given[3].Name = "C" },
		func(w *impl.World) { w.Given[3].Text = "" }, func(w *impl.World) { w.Given[3].Text = strings.Repeat("x", 301) },
	} {
		bad = append(bad, turnedWorld(t, change), turnedWorld(t, func(w *impl.World) {
			*w = downWorld(t, "0 c:more", 9)
			change(w)
		}))
	}
	for _, edition := range []int{0, -1, 3, 5, tooBig, tooSmall} {
		bad = append(bad, turnedWorld(t, func(w *impl.World) { w.Given[3].Edition = edition }), turnedWorld(t, func(w *impl.World) { w.Given[0].Edition = edition }))
	}
	// Up, one fewer is too few, and with a record that came as a whole two fewer, or one more than all.
	fewer := turnedWorld(t, func(w *impl.World) { w.Given = w.Given[:3]; w.Clients = newWorld().Clients })
	two := downWorld(t, "1 b:more", 999)
	two.Given, two.Clients = two.Given[:3], newWorld().Clients
	more := downWorld(t, "1 b:more", 999)
	more.Given = append(more.Given, impl.Item{House: 1, Name: "b", Edition: 5, Text: "more"}, impl.Item{House: 1, Name: "d", Edition: 6, Text: "more"})
	other := downWorld(t, "1 b:more", 999)
	other.Given = append(other.Given, impl.Item{House: 1, Name: "b", Edition: 5, Text: "less"})
	return append(bad, fewer, two, more, other)
}

// badWorlds are not ok, each by one thing alone.
func badWorlds(t *testing.T) []impl.World {
	t.Helper()
	bad := append(badGiven(t), impl.World{})
	for _, s := range badServers(t) {
		bad = append(bad, turnedWorld(t, func(w *impl.World) { w.Server = s }))
	}
	for _, change := range []func(w *impl.World){
		func(w *impl.World) { w.Clients = nil }, func(w *impl.World) { w.Clients = w.Clients[:3] }, func(w *impl.World) { w.Clients = w.Clients[1:] }, func(w *impl.World) { w.Clients = append(w.Clients, impl.Client{}) }, func(w *impl.World) { w.Clients = append(w.Clients, impl.Client{Id: 4}) }, func(w *impl.World) { w.Clients = append(w.Clients, w.Clients[3]) },
		func(w *impl.World) { w.Clients[0], w.Clients[2] = w.Clients[2], w.Clients[0] }, func(w *impl.World) { w.Clients[1].Id = 3 }, func(w *impl.World) { w.Clients[3].Id = 1 }, func(w *impl.World) { w.Clients[3] = impl.Client{} },
		func(w *impl.World) { w.Clients[0].Edition = 5 }, func(w *impl.World) { w.Clients[2].Edition = 5 }, func(w *impl.World) { w.Clients[0].Edition = 99999 },
		func(w *impl.World) { w.Radio = make([]impl.Packet, 61) }, func(w *impl.World) { w.Radio = append(slices.Repeat(w.Radio, 6), w.Radio[0]) }, func(w *impl.World) { w.Radio = make([]impl.Packet, 1000) },
		func(w *impl.World) { w.Radio[0].Text = strings.Repeat("x", 161) }, func(w *impl.World) { w.Radio[9].Text += "\x00" },
	} {
		bad = append(bad, turnedWorld(t, change))
	}
	for _, to := range []int{-1, 4, 5, 8, 10, 99999, tooBig, tooSmall} {
		bad = append(bad, turnedWorld(t, func(w *impl.World) { w.Radio[0].To = to }), turnedWorld(t, func(w *impl.World) { w.Radio[9].To = to }))
	}
	for _, c := range append(badClients(t), badKnowing(t)...) {
		place := c.Id & 3
		bad = append(bad, turnedWorld(t, func(w *impl.World) { w.Clients[place] = c }))
	}
	return bad
}

// oneOfEach is an event of each kind, and of none.
func oneOfEach() []impl.Event {
	var list []impl.Event
	for kind := range 14 {
		list = append(list, impl.Event{Kind: kind, Name: "a", Text: "text", Num: 5})
	}
	return list
}

func TestWorldNew(t *testing.T) {
	if w := impl.WorldNew(); !sameWorld(w, newWorld()) || !impl.WorldOk(w) || !impl.WorldSafe(w) || !impl.WorldStill(w) {
		t.Errorf("WorldNew is %#v", w)
	}
}

func TestWorldOk(t *testing.T) {
	for i, w := range edgeWorlds(t) {
		if !impl.WorldOk(w) || !worldHasForm(w) {
			t.Errorf("world %d is ok: %#v", i, w)
		}
		checkWorld(t, w)
		for _, e := range oneOfEach() {
			checkDo(t, w, e)
		}
	}
}

func TestWorldsThatAreNotOk(t *testing.T) {
	for i, w := range badWorlds(t) {
		if impl.WorldOk(w) || worldHasForm(w) {
			t.Errorf("world %d is not ok: %#v", i, w)
		}
		if impl.WorldSafe(w) || impl.WorldStill(w) || impl.WorldBoard(w) != "" {
			t.Errorf("world %d is not ok, but is safe, still, or has a board", i)
		}
		for _, e := range oneOfEach() {
			if next, can := impl.WorldDo(w, e); can || !sameWorld(next, impl.World{}) {
				t.Errorf("world %d is not ok: %#v is %#v %#v", i, e, next, can)
			}
		}
		for _, rounds := range []int{tooSmall, -1, 0, 1, tooBig} {
			if calm := impl.WorldCalm(w, rounds); !sameWorld(calm, impl.World{}) {
				t.Errorf("world %d is not ok: its calm is %#v", i, calm)
			}
		}
	}
}

// Any number of a world that is turned is told alike by the program and the model.
func TestWorldOkOfSpoiltOnes(t *testing.T) {
	r := newSource(140)
	for range 3000 {
		w := busyWorld(t)
		if r.Intn(2) == 0 {
			w = downWorld(t, []string{"1 b:more", "1 a:", "0 a:x"}[r.Intn(3)], r.Intn(40))
		}
		number := []int{-1, 0, 1, 2, 3, 4, 5, 9, 60, 99999, tooBig}[r.Intn(11)]
		switch r.Intn(9) {
		case 0:
			w.Clients[r.Intn(4)].Edition = number
		case 1:
			w.Clients[r.Intn(4)].Id = number
		case 2:
			w.Radio[r.Intn(10)].To = number
		case 3:
			w.Radio = slices.Repeat(w.Radio, 1+r.Intn(7))
		case 4:
			w.Given[r.Intn(4)].Edition = number
		case 5:
			w.Given[r.Intn(4)].House = number
		case 6:
			w.Given = w.Given[:r.Intn(5)]
		case 7:
			w.Given[r.Intn(4)].Text = serveTexts()[r.Intn(10)]
		case 8:
			w.Radio[r.Intn(10)].Text = strings.Repeat("x", 150+r.Intn(20))
		}
		checkWorld(t, w)
	}
}

func TestP67WrongEventsLeaveAWorld(t *testing.T) {
	w := busyWorld(t)
	down := downWorld(t, "1 b:more", 9)
	var list []impl.Event
	for _, kind := range []int{0, -1, 13, 14, 99, tooBig, tooSmall} {
		list = append(list, impl.Event{Kind: kind, Name: "a", Text: "x"}, impl.Event{Kind: kind, At: 1, Name: "new", Text: "x", Num: 3, Keep: true})
	}
	for kind := 1; kind <= 10; kind++ {
		for _, at := range []int{-1, tooSmall, tooBig, 10, 11, 60, 61} {
			if kind != impl.WorldServe {
				list = append(list, impl.Event{Kind: kind, At: at, Name: "a", Text: "x"}, impl.Event{Kind: kind, At: at, Name: "new", Text: "x", Num: 7, Keep: true})
			}
		}
	}
	for kind := impl.WorldPut; kind <= impl.WorldTake; kind++ {
		list = append(list, impl.Event{Kind: kind, At: 2, Name: "a", Text: "x"})
	}
	for _, kind := range []int{impl.WorldOpen, impl.WorldAgain, impl.WorldStop, impl.WorldTick} {
		list = append(list, impl.Event{Kind: kind, At: 4, Name: "a"}, impl.Event{Kind: kind, At: 9, Name: "a"})
	}
	for _, num := range []int{-1, -4096, tooSmall} {
		list = append(list, impl.Event{Kind: impl.WorldSpoil, Num: num}, impl.Event{Kind: impl.WorldSpoil, At: 6, Num: num})
	}
	list = append(list,
		impl.Event{Kind: impl.WorldPut, Name: "a", Text: "x"}, impl.Event{Kind: impl.WorldPut, Name: "new"}, impl.Event{Kind: impl.WorldPut, Name: "new", Text: strings.Repeat("x", 301)}, impl.Event{Kind: impl.WorldPut, Name: "toolong", Text: "x"}, impl.Event{Kind: impl.WorldPut, Name: "c", Text: strings.Repeat("x", 181)},
		impl.Event{Kind: impl.WorldTake, Name: "c"}, impl.Event{Kind: impl.WorldTake, At: 1, Name: "c"}, impl.Event{Kind: impl.WorldTake},
		impl.Event{Kind: impl.WorldOpen}, impl.Event{Kind: impl.WorldOpen, Name: "toolong"}, impl.Event{Kind: impl.WorldOpen, Name: "A"},
		impl.Event{Kind: impl.WorldAgain, At: 1}, impl.Event{Kind: impl.WorldAgain, At: 2}, impl.Event{Kind: impl.WorldTick, At: 2}, impl.Event{Kind: impl.WorldTick, At: 3},
		impl.Event{Kind: impl.WorldSpoil, At: 7}, impl.Event{Kind: impl.WorldSpoil, At: 9}, impl.Event{Kind: impl.WorldRise},
	)
	for _, e := range list {
		if next, can := checkDo(t, w, e); can || !sameWorld(next, w) {
			t.Errorf("%#v cannot be", e)
		}
	}
	for _, e := range append(list, impl.Event{Kind: impl.WorldPut, Name: "c", Text: "x"}, impl.Event{Kind: impl.WorldTake, Name: "a"}, impl.Event{Kind: impl.WorldServe}, impl.Event{Kind: impl.WorldFall, Name: "c", Text: "x", Num: 99}) {
		if e.Kind == impl.WorldRise {
			continue
		}
		if next, can := checkDo(t, down, e); can || !sameWorld(next, down) {
			t.Errorf("%#v cannot be of a server that is down", e)
		}
	}
	for id := range 4 {
		if next, can := checkDo(t, newWorld(), impl.Event{Kind: impl.WorldStop, At: id}); can || !sameWorld(next, newWorld()) {
			t.Errorf("client %d is idle", id)
		}
	}
}

// At the last time, and the last try, there is no more.
func TestP67AtTheLastTimeAndTry(t *testing.T) {
	w := turnedWorld(t, func(w *impl.World) { w.Server.Now = 99999; w.Clients[0].Try = 99999 })
	for _, e := range []impl.Event{{Kind: impl.WorldServe}, {Kind: impl.WorldOpen, Name: "a"}, {Kind: impl.WorldAgain}} {
		if _, can := checkDo(t, w, e); can {
			t.Errorf("%#v cannot be", e)
		}
	}
	w.Server.Now, w.Clients[0].Try = 99998, 99998
	for _, e := range []impl.Event{{Kind: impl.WorldServe}, {Kind: impl.WorldOpen, Name: "a"}, {Kind: impl.WorldAgain}} {
		if next := mustDo(t, w, e); e.Kind == impl.WorldServe && next.Server.Now != 99999 || e.Kind != impl.WorldServe && next.Clients[0].Try != 99999 {
			t.Errorf("%#v is %#v", e, next)
		}
	}
}

// All that happens in long plays is held against the model, step by step.
func TestP67NothingSpoilsAWorld(t *testing.T) {
	for seed, often := range storms() {
		for run := range 3 {
			t.Run("", func(t *testing.T) {
				t.Parallel()
				r := newSource(int64(1400 + 10*seed + run))
				w := newWorld()
				for range 400 {
					e := someEvent(r, often)
					next, can := checkDo(t, w, e)
					if !can && !sameWorld(next, w) || !impl.WorldOk(next) || !slices.Equal(next.Given[:len(w.Given)], w.Given) || len(next.Given) > len(w.Given)+1 {
						t.Fatalf("%#v spoils %#v", e, w)
					}
					checkWorld(t, next)
					w = next
				}
			})
		}
	}
}

// Words that nobody said can spoil a world; what happens to it is told by the model.
func TestWorldsWithWordsFromNowhere(t *testing.T) {
	r := newSource(141)
	spoilt := 0
	for range 400 {
		w := busyWorld(t)
		if r.Intn(3) == 0 {
			w = downWorld(t, "1 b:more", r.Intn(60))
		}
		for range r.Intn(5) {
			word := someServeWord(r, w.Server)
			if word.Kind == impl.WordAccept {
				word.Data = impl.PlanWrite(impl.PlanFor(1 + r.Intn(30)))
			}
			w.Radio = append(w.Radio, impl.Packet{To: []int{9, word.Client, r.Intn(4)}[r.Intn(3)], Text: impl.WordWrite(word)})
		}
		if r.Intn(2) == 0 {
			w.Clients[r.Intn(4)].Stands = 1
		}
		for range 12 {
			e := impl.Event{Kind: impl.WorldBring, At: r.Intn(len(w.Radio) + 1), Keep: r.Intn(3) == 0}
			if !worldHasForm(w) {
				spoilt++
			}
			w, _ = checkDo(t, w, e)
		}
	}
	if spoilt == 0 {
		t.Error("no world was spoilt")
	}
}

// A calm in which a client is told of an edition that never was ends in nothing, as that is what happens to such a world.
func TestWorldCalmWithWordsFromNowhere(t *testing.T) {
	accept := func(edition int) impl.World {
		w := mustAll(t, impl.Event{Kind: impl.WorldPut, Name: "a", Text: foxText}, impl.Event{Kind: impl.WorldOpen, Name: "a"})
		w.Radio = nil
		return sent(w, true, []impl.Word{{Kind: impl.WordAccept, Client: 0, Try: 1, Edition: edition, Data: "20/8:1,3:2,3"}})
	}
	if w := checkCalm(t, accept(1), 2); w.Clients[0].Stands != impl.ClientFull {
		t.Errorf("a true word is as if the server had said it: %#v", w)
	}
	if w := checkCalm(t, accept(2), 1); !sameWorld(w, impl.World{}) {
		t.Errorf("it is %#v", w)
	}
	gone := impl.World{Server: impl.Server{Log: logOf([]string{"0 a:x", "0 a:"})}, Clients: newWorld().Clients}
	if w := checkCalm(t, gone, 1); !sameWorld(w, impl.World{}) {
		t.Errorf("it is %#v", w)
	}
}
