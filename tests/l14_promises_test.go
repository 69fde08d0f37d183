package tests

import (
	"fmt"
	"slices"
	"strings"
	"testing"

	"loop.example/wellhead/impl"
)

// history is what was given out, as the one who gave it out remembers it.
type history struct {
	given []impl.Item
	// What was being written as the server fell.
	torn impl.Event
}

// happened remembers what happened, and says whether a world has just what was given out.
func (h *history) happened(e impl.Event, w impl.World) bool {
	add := func(e impl.Event) {
		h.given = append(h.given, impl.Item{House: e.At, Name: e.Name, Edition: len(h.given) + 1, Text: e.Text})
	}
	switch e.Kind {
	case impl.WorldPut:
		add(e)
	case impl.WorldFall:
		h.torn = e
	case impl.WorldRise:
		// Whether all of it came is seen by how many there are.
		if len(w.Given) > len(h.given) {
			add(h.torn)
		}
	}
	return slices.Equal(w.Given, h.given)
}

// knowsWhatWas says whether each client knows how something begins that was given out, by its house, name and edition; all of it, if it is full.
func (h *history) knowsWhatWas(w impl.World) bool {
	for id, c := range w.Clients {
		if c.Edition == 0 {
			continue
		}
		item, known := h.given[c.Edition-1], impl.ClientText(c)
		if item.House != id%2 || item.Name != c.Name || !strings.HasPrefix(item.Text, known) || (c.Stands == impl.ClientFull) != (known == item.Text) {
			return false
		}
	}
	return true
}

func TestP60AndP61BehindAllThatMayHappen(t *testing.T) {
	learnt, full, anew := 0, 0, 0
	for seed := range 120 {
		r := newSource(int64(6000 + seed))
		w, all := impl.WorldNew(), &history{}
		for _, e := range someEvents(r, 400) {
			next, can := impl.WorldDo(w, e)
			for id, c := range next.Clients {
				if len(impl.ClientText(c)) > len(impl.ClientText(w.Clients[id])) {
					learnt++
				}
				if c.Stands == impl.ClientFull && w.Clients[id].Stands == impl.ClientGets {
					full++
				}
			}
			w = next
			if can && !all.happened(e, w) {
				t.Fatalf("seed %d: %#v is given, but it was %#v", seed, w.Given, all.given)
			}
			if !impl.WorldSafe(w) || !all.knowsWhatWas(w) {
				t.Fatalf("seed %d: behind %#v a client knows what was not given out: %#v", seed, e, w)
			}
		}
		for i, item := range all.given {
			if slices.ContainsFunc(all.given[:i], func(other impl.Item) bool { return other.House == item.House && other.Name == item.Name }) {
				anew++
			}
		}
	}
	// Else the plays would say nothing.
	if learnt < 200 || full < 50 || anew < 200 {
		t.Errorf("%d times a client learnt something, %d times all, %d things were given out anew", learnt, full, anew)
	}
}

// Words of a thing that is taken, and given out anew under its name, are under way, late, and doubled.
func TestP61AThingThatIsGivenOutAnew(t *testing.T) {
	told := []impl.Event{{Kind: impl.WorldPut, Name: "a", Text: foxText}, {Kind: impl.WorldOpen, Name: "a"}, {Kind: impl.WorldBring, Keep: true}, {Kind: impl.WorldBring, At: 1, Keep: true}, {Kind: impl.WorldServe}, {Kind: impl.WorldServe}}
	anew := []impl.Event{{Kind: impl.WorldTake, Name: "a"}, {Kind: impl.WorldPut, Name: "a", Text: "THEREDFOXJUMPSOVERIT"}}
	w := mustAll(t, slices.Concat(told, anew)...)
	// Under way are now: the ask, the accept of edition 1, and two symbols of it.
	if len(w.Radio) != 4 || w.Clients[0].Stands != impl.ClientGets {
		t.Fatalf("it is %#v", w)
	}
	late := mustDo(t, w, impl.Event{Kind: impl.WorldBring, At: 2, Keep: true})
	if text := impl.ClientText(late.Clients[0]); text != "theredfo" || !impl.WorldSafe(late) {
		t.Errorf("a late symbol of the first edition is one: %q", text)
	}
	asked := mustDo(t, late, impl.Event{Kind: impl.WorldBring, Keep: true})
	if s := asked.Server.Serves; len(s) != 1 || s[0].Edition != 2 || s[0].Try != 1 {
		t.Errorf("a late ask without an edition is one for the second edition: %#v", s)
	}
	for range 3 {
		asked = mustDo(t, asked, impl.Event{Kind: impl.WorldServe})
	}
	for len(asked.Radio) > 0 {
		asked = mustDo(t, asked, impl.Event{Kind: impl.WorldBring, At: len(asked.Radio) - 1})
		if c := asked.Clients[0]; c.Edition != 1 || !strings.HasPrefix(foxText, impl.ClientText(c)) || !impl.WorldSafe(asked) {
			t.Fatalf("it knows something of the second edition: %#v", c)
		}
	}
	calm := checkCalm(t, asked, 1)
	if c := calm.Clients[0]; c.Stands != impl.ClientLost || c.Edition != 1 {
		t.Errorf("there is no first edition any more: %#v", c)
	}
	again := checkCalm(t, mustDo(t, calm, impl.Event{Kind: impl.WorldAgain}), 1)
	if c := again.Clients[0]; c.Stands != impl.ClientLost || c.Edition != 1 || c.Try != 2 {
		t.Errorf("who wants the rest of it is told so again: %#v", c)
	}
	opened := checkCalm(t, mustDo(t, again, impl.Event{Kind: impl.WorldOpen, Name: "a"}), 1)
	if c := opened.Clients[0]; c.Stands != impl.ClientFull || c.Edition != 2 || impl.ClientText(c) != "THEREDFOXJUMPSOVERIT" {
		t.Errorf("who asks anew gets the second edition: %#v", c)
	}
}

// Each way of bringing all words of two editions that are under way, in any order, leaves a world safe.
func TestP61WordsOfTwoEditionsInAnyOrder(t *testing.T) {
	list := []impl.Event{
		{Kind: impl.WorldPut, Name: "a", Text: foxText}, {Kind: impl.WorldOpen, Name: "a"}, {Kind: impl.WorldBring, Keep: true}, {Kind: impl.WorldServe},
		{Kind: impl.WorldTake, Name: "a"}, {Kind: impl.WorldPut, Name: "a", Text: "THEREDFOXJUMPSOVERIT"}, {Kind: impl.WorldBring}, {Kind: impl.WorldServe}, {Kind: impl.WorldOpen, Name: "a"},
	}
	start := mustAll(t, list...)
	// Two accepts, two symbols, and an ask.
	if len(start.Radio) != 5 {
		t.Fatalf("under way are %#v", start.Radio)
	}
	var try func(w impl.World, left int)
	try = func(w impl.World, left int) {
		if !impl.WorldSafe(w) {
			t.Fatalf("not safe: %#v", w)
		}
		if left == 0 {
			calm := impl.WorldCalm(w, 7)
			if c := calm.Clients[0]; !impl.WorldSafe(calm) || c.Stands != impl.ClientFull || impl.ClientText(c) != "THEREDFOXJUMPSOVERIT" {
				t.Fatalf("in a calm it is %#v", c)
			}
			return
		}
		for at := range left {
			next, can := impl.WorldDo(w, impl.Event{Kind: impl.WorldBring, At: at, Keep: at%2 == 1})
			if !can {
				t.Fatalf("word %d can be brought", at)
			}
			next, _ = impl.WorldDo(next, impl.Event{Kind: impl.WorldServe})
			try(next, left-1)
		}
	}
	try(start, 5)
}

// goneUnderWay says whether a client is still to hear that there was no such thing, when it asked.
func goneUnderWay(w impl.World, id int) bool {
	return slices.ContainsFunc(w.Radio, func(p impl.Packet) bool {
		word, _ := impl.WordRead(p.Text)
		return p.To == id && word.Kind == impl.WordGone && word.Try == w.Clients[id].Try
	})
}

func TestP62InACalmEachClientKnowsAll(t *testing.T) {
	waited, full, lost := 0, 0, 0
	for seed := range 150 {
		w := someWorld(newSource(int64(6200 + seed)))
		calm := impl.WorldCalm(w, 7)
		if !impl.WorldStill(calm) || !impl.WorldSafe(calm) || len(calm.Radio) != 0 || !calm.Server.Up {
			t.Fatalf("seed %d: the calm of %#v is %#v", seed, w, calm)
		}
		for id, c := range calm.Clients {
			was := w.Clients[id]
			if was.Stands != impl.ClientAsks && was.Stands != impl.ClientGets {
				if !sameClient(c, was) {
					t.Fatalf("seed %d: %#v did not wait, but is %#v", seed, was, c)
				}
				continue
			}
			waited++
			item, given := impl.CatGet(calm.Server.Cat, id%2, was.Name)
			right := given && (was.Edition == 0 || was.Edition == item.Edition)
			if c.Stands == impl.ClientFull {
				full++
				if impl.ClientText(c) != calm.Given[c.Edition-1].Text {
					t.Fatalf("seed %d: %#v is full, but it was %#v", seed, c, calm.Given)
				}
				continue
			}
			lost++
			if right && !goneUnderWay(w, id) {
				t.Fatalf("seed %d: %#v is lost, but there is %#v", seed, c, item)
			}
		}
	}
	if waited < 100 || full < 50 || lost < 20 {
		t.Errorf("%d waited, %d got all, %d were told that there is none", waited, full, lost)
	}
}

// The calm itself, word by word, is that of the model.
func TestP62WorldCalmIsJustItsEvents(t *testing.T) {
	for seed := range 12 {
		t.Run("", func(t *testing.T) {
			t.Parallel()
			r := newSource(int64(6250 + seed))
			w := impl.WorldPlay(someEvents(r, 60+r.Intn(200)))
			checkCalm(t, w, 1+r.Intn(2))
		})
	}
}

func TestP62RoundsAtTheirLimits(t *testing.T) {
	w := downWorld(t, "1 b:more", 999)
	for _, rounds := range []int{0, -1, -7, tooSmall} {
		if got := checkCalm(t, w, rounds); !sameWorld(got, w) {
			t.Errorf("%d rounds are none: %#v", rounds, got)
		}
	}
	one := checkCalm(t, w, 1)
	if !one.Server.Up || one.Server.Now != w.Server.Now+90 || len(one.Radio) != 0 {
		t.Errorf("one round is %#v", one)
	}
	for rounds := 2; rounds <= 10; rounds++ {
		if got := impl.WorldCalm(w, rounds); got.Server.Now != w.Server.Now+90*rounds {
			t.Errorf("%d rounds end at %d", rounds, got.Server.Now)
		}
	}
	ten := checkCalm(t, w, 10)
	for _, rounds := range []int{11, 12, 99, tooBig} {
		if got := impl.WorldCalm(w, rounds); !sameWorld(got, ten) {
			t.Errorf("%d rounds are ten: %#v", rounds, got.Server.Now)
		}
	}
	// The first of two calms ends all that the second begins with.
	if got := impl.WorldCalm(impl.WorldCalm(w, 4), 6); !sameWorld(got, ten) {
		t.Error("four rounds and six are ten")
	}
}

// Clients whose asks were all lost are heard in a round ahead of the first symbol that is told in it, which is seen where a round is too short for all.
func TestP62ARoundThatIsTooShort(t *testing.T) {
	var list []impl.Event
	for id := range 4 {
		if id < 2 {
			list = append(list, impl.Event{Kind: impl.WorldPut, At: id, Name: "a", Text: strings.Repeat("0123456789", 30)})
		}
		list = append(list, impl.Event{Kind: impl.WorldOpen, At: id, Name: "a"}, impl.Event{Kind: impl.WorldLose})
	}
	w := mustAll(t, list...)
	one := checkCalm(t, w, 1)
	told := 0
	for _, c := range one.Clients {
		told += impl.SolverRank(c.Get.Solver)
	}
	if impl.WorldStill(one) || told != 90 || len(one.Radio) != 0 {
		t.Errorf("in a round 90 symbols are told, not %d", told)
	}
	if two := checkCalm(t, w, 2); !impl.WorldStill(two) {
		t.Errorf("in two rounds all is told: %#v", two)
	}
}

// As many words as can be are under way, and each is answered: all of them are brought ahead of the first round.
func TestP62AllThatIsUnderWayIsBrought(t *testing.T) {
	w := mustAll(t, impl.Event{Kind: impl.WorldPut, Name: "a", Text: foxText}, impl.Event{Kind: impl.WorldOpen, Name: "a"})
	for len(w.Radio) < 60 {
		w = mustDo(t, w, impl.Event{Kind: impl.WorldTick})
	}
	calm := checkCalm(t, w, 1)
	if len(calm.Radio) != 0 || calm.Clients[0].Stands != impl.ClientFull {
		t.Errorf("the calm is %#v", calm)
	}
	// Who did not wait says to each symbol that it wants no more.
	stopped := mustDo(t, checkCalm(t, mustDo(t, w, impl.Event{Kind: impl.WorldLose}), 0), impl.Event{Kind: impl.WorldStop})
	stopped.Radio = nil
	for len(stopped.Radio) < 60 {
		stopped = sent(stopped, true, []impl.Word{{Kind: impl.WordSymbol, Client: 0, Try: 1, Edition: 1, Num: 0, Data: "theredfo"}})
	}
	if got := checkCalm(t, stopped, 1); len(got.Radio) != 0 || len(got.Server.Serves) != 0 || got.Clients[0].Stands != impl.ClientIdle {
		t.Errorf("the calm is %#v", got)
	}
}

// At the last time a server tells nothing any more: who waits goes on doing so.
func TestP62ACalmAtTheLastTime(t *testing.T) {
	w := turnedWorld(t, func(w *impl.World) { w.Server.Now, w.Radio = 99999, nil })
	got := checkCalm(t, w, 1)
	if impl.WorldStill(got) || got.Server.Now != 99999 || !impl.WorldSafe(got) {
		t.Errorf("the calm is %#v", got)
	}
	w.Server.Now = 99999 - 45
	if got := checkCalm(t, w, 1); got.Server.Now != 99999 {
		t.Errorf("the calm is %#v", got)
	}
}

func TestP63WhoAsksInACalmGetsIt(t *testing.T) {
	asked := 0
	for seed := range 80 {
		r := newSource(int64(6300 + seed))
		w := someWorld(r)
		if r.Intn(2) == 0 {
			w = impl.WorldCalm(w, 1)
		}
		w, _ = impl.WorldDo(w, impl.Event{Kind: impl.WorldRise})
		for _, item := range w.Server.Cat.Items {
			id := item.House + 2*r.Intn(2)
			opened, can := impl.WorldDo(w, impl.Event{Kind: impl.WorldOpen, At: id, Name: item.Name})
			calm := impl.WorldCalm(opened, 7)
			c := calm.Clients[id]
			if !can || c.Stands != impl.ClientFull || c.Edition != item.Edition || impl.ClientText(c) != item.Text {
				t.Fatalf("seed %d: client %d asked for %#v, and is %#v", seed, id, item, c)
			}
			asked++
		}
	}
	if asked < 100 {
		t.Errorf("only %d asked", asked)
	}
}

// All clients ask at once for the longest things of both houses.
func TestP63AllAskForTheLongestThings(t *testing.T) {
	r := newSource(63)
	texts := []string{someText(r, 300), someText(r, 300)}
	list := []impl.Event{{Kind: impl.WorldPut, Name: "a", Text: texts[0]}, {Kind: impl.WorldPut, At: 1, Name: "a", Text: texts[1]}}
	for id := range 4 {
		list = append(list, impl.Event{Kind: impl.WorldOpen, At: id, Name: "a"})
	}
	calm := impl.WorldCalm(mustAll(t, list...), 7)
	for id, c := range calm.Clients {
		if c.Stands != impl.ClientFull || impl.ClientText(c) != texts[id%2] {
			t.Errorf("client %d is %#v", id, c)
		}
	}
	// Of a house that has no such thing, or of another one, nobody gets it.
	calm = impl.WorldCalm(mustAll(t, list[1:]...), 7)
	for id, c := range calm.Clients {
		if want := []int{impl.ClientLost, impl.ClientFull}[id%2]; c.Stands != want {
			t.Errorf("client %d is %#v", id, c)
		}
	}
}

// otherTexts are the same events, but that house 1 gives out other texts of the same lengths; none of them falls or is spoilt.
func otherTexts(list []impl.Event) ([]impl.Event, []impl.Event) {
	var these, those []impl.Event
	for i, e := range list {
		if e.Kind == impl.WorldFall || e.Kind == impl.WorldSpoil {
			continue
		}
		these = append(these, e)
		if e.Kind == impl.WorldPut && e.At == 1 {
			text := []byte(e.Text)
			for at := range text {
				text[at] ^= byte(1 + (i+7*at)%255)
			}
			e.Text = string(text)
		}
		those = append(those, e)
	}
	return these, those
}

// toHouse are words under way to clients of a house.
func toHouse(w impl.World, house int) []impl.Packet {
	var list []impl.Packet
	for _, p := range w.Radio {
		if p.To < 4 && p.To%2 == house {
			list = append(list, p)
		}
	}
	return list
}

func TestP64WhatAnotherHouseGivesOutIsNotSeen(t *testing.T) {
	others, words := 0, 0
	check := func(seed int, a impl.World, b impl.World) {
		t.Helper()
		if !sameClient(a.Clients[0], b.Clients[0]) || !sameClient(a.Clients[2], b.Clients[2]) || !slices.Equal(toHouse(a, 0), toHouse(b, 0)) {
			t.Fatalf("seed %d: house 0 sees house 1: %#v %#v", seed, a, b)
		}
		if !slices.Equal(toHouse(a, 1), toHouse(b, 1)) {
			others++
		}
		words += len(toHouse(a, 0))
	}
	for seed := range 60 {
		these, those := otherTexts(someEvents(newSource(int64(6400+seed)), 400))
		a, b := impl.WorldNew(), impl.WorldNew()
		for i := range these {
			nextA, canA := impl.WorldDo(a, these[i])
			nextB, canB := impl.WorldDo(b, those[i])
			if canA != canB {
				t.Fatalf("seed %d: %#v can be but once", seed, these[i])
			}
			a, b = nextA, nextB
			check(seed, a, b)
		}
		check(seed, impl.WorldPlay(these), impl.WorldPlay(those))
		check(seed, impl.WorldCalm(a, 7), impl.WorldCalm(b, 7))
	}
	if others < 1000 || words < 1000 {
		t.Errorf("words to house 1 were others %d times, to house 0 there were %d", others, words)
	}
}

// A server falls while it writes each of some records, at each byte, and rises.
func TestP65WhatWasGivenOutStays(t *testing.T) {
	w := busyWorld(t)
	records := len(busyRecords())
	for _, e := range []impl.Event{{At: 1, Name: "b", Text: "more"}, {Name: "a"}, {At: 1, Name: "a"}, {Name: "c", Text: "a\nb:c d"}} {
		line := lineOf(records, recordOf(e))
		for _, bytes := range append(upTo(len(line)), len(line), len(line)+1, tooBig, -1, tooSmall) {
			e.Kind, e.Num = impl.WorldFall, bytes
			down := mustDo(t, w, e)
			up := mustDo(t, down, impl.Event{Kind: impl.WorldRise})
			checkWorld(t, down)
			checkWorld(t, up)
			whole := bytes >= len(line)
			if !whole && (!sameCat(up.Server.Cat, w.Server.Cat) || up.Server.Log != w.Server.Log || !slices.Equal(up.Given, w.Given)) {
				t.Errorf("%#v: %#v was given out, but it is %#v", e, w.Server.Cat, up.Server.Cat)
			}
			if whole && (sameCat(up.Server.Cat, w.Server.Cat) || up.Server.Log != w.Server.Log+line || (len(up.Given) == 5) != (e.Text != "")) {
				t.Errorf("%#v was written as a whole, but it is %#v", e, up.Server.Cat)
			}
			if !slices.EqualFunc(up.Clients, w.Clients, sameClient) || !slices.Equal(up.Radio, w.Radio) || len(down.Given) != 4 {
				t.Errorf("%#v changes clients, words, or what was given out ahead of rising: %#v", e, up)
			}
		}
	}
}

// What has a code is not written, however many bytes come.
func TestP65ARecordThatHasACode(t *testing.T) {
	w := busyWorld(t)
	for _, e := range []impl.Event{
		{}, {Name: "a", Text: "x"}, {At: 1, Name: "c"}, {At: 2, Name: "a", Text: "x"}, {At: -1, Name: "c", Text: "x"}, {At: tooBig, Name: "c", Text: "x"}, {Name: "toolong", Text: "x"}, {Name: "c", Text: strings.Repeat("x", 301)}, {Name: "c", Text: strings.Repeat("x", 181)}, {Text: "x"},
	} {
		for _, bytes := range []int{0, 1, 30, 999, tooBig} {
			e.Kind, e.Num = impl.WorldFall, bytes
			down := mustDo(t, w, e)
			up := mustDo(t, down, impl.Event{Kind: impl.WorldRise})
			if down.Server.Log != w.Server.Log || !sameCat(up.Server.Cat, w.Server.Cat) || !slices.Equal(up.Given, w.Given) {
				t.Errorf("%#v was written: %q", e, down.Server.Log)
			}
		}
	}
}

func TestP65BehindLongPlays(t *testing.T) {
	for seed := range 60 {
		r := newSource(int64(6500 + seed))
		w := impl.WorldCalm(someWorld(r), 1)
		e := impl.Event{Kind: impl.WorldFall, At: r.Intn(2), Name: "abc", Text: serveTexts()[r.Intn(10)], Num: r.Intn(28)}
		down := mustDo(t, w, e)
		up := mustDo(t, down, impl.Event{Kind: impl.WorldRise})
		if !sameCat(up.Server.Cat, w.Server.Cat) || len(up.Server.Serves) != 0 || down.Server.Up {
			t.Fatalf("seed %d: %#v was given out, but it is %#v", seed, w.Server.Cat, up.Server.Cat)
		}
		// All that happens in between is for nothing.
		for range 20 {
			between := someEvent(r, storms()[0])
			if between.Kind != impl.WorldRise {
				down, _ = checkDo(t, down, between)
			}
		}
		if down.Server.Up || !sameServer(mustDo(t, down, impl.Event{Kind: impl.WorldRise}).Server, up.Server) {
			t.Fatalf("seed %d: one that is down did something", seed)
		}
	}
}

// A record that was torn by an earlier fall is not there when a later one is written.
func TestP65FallsBehindFalls(t *testing.T) {
	w := newWorld()
	for i, text := range []string{"one", "two", "three", "four"} {
		name := string(rune('a' + i))
		w = mustDo(t, w, impl.Event{Kind: impl.WorldFall, Name: name, Text: text, Num: 5 + i})
		w = mustDo(t, w, impl.Event{Kind: impl.WorldRise})
		if len(w.Given) != i {
			t.Fatalf("given are %#v", w.Given)
		}
		w = mustDo(t, w, impl.Event{Kind: impl.WorldFall, Name: name, Text: text, Num: 99})
		w = mustDo(t, w, impl.Event{Kind: impl.WorldRise})
		if len(w.Given) != i+1 || w.Given[i] != (impl.Item{Name: name, Edition: i + 1, Text: text}) {
			t.Fatalf("given are %#v", w.Given)
		}
	}
}

func TestP66AWordThatComesTwice(t *testing.T) {
	heard := 0
	for seed := range 120 {
		w := someWorld(newSource(int64(6600 + seed)))
		for at := range w.Radio {
			once := mustDo(t, w, impl.Event{Kind: impl.WorldBring, At: at})
			kept := mustDo(t, w, impl.Event{Kind: impl.WorldBring, At: at, Keep: true})
			twice := mustDo(t, kept, impl.Event{Kind: impl.WorldBring, At: at})
			if !slices.EqualFunc(once.Clients, twice.Clients, sameClient) || !slices.EqualFunc(once.Clients, kept.Clients, sameClient) {
				t.Fatalf("seed %d: %#v came twice", seed, w.Radio[at])
			}
			if !slices.Equal(once.Radio[:len(w.Radio)-1], slices.Delete(slices.Clone(w.Radio), at, at+1)) || !slices.Equal(kept.Radio[:len(w.Radio)], w.Radio) {
				t.Fatalf("seed %d: %#v goes out of the words under way, unless it is kept", seed, w.Radio[at])
			}
			if !slices.EqualFunc(once.Clients, w.Clients, sameClient) {
				heard++
			}
		}
	}
	if heard < 20 {
		t.Errorf("only %d words changed a client", heard)
	}
}

// Each word that comes, comes twice: in the end all know what they know when each comes once.
func TestP66EachWordComesTwice(t *testing.T) {
	list := []impl.Event{{Kind: impl.WorldPut, Name: "a", Text: foxText}, {Kind: impl.WorldPut, At: 1, Name: "b", Text: strings.Repeat("thing", 20)}, {Kind: impl.WorldOpen, Name: "a"}, {Kind: impl.WorldOpen, At: 3, Name: "b"}, {Kind: impl.WorldOpen, At: 2, Name: "none"}}
	start := mustAll(t, list...)
	run := func(twice bool) impl.World {
		w := start
		for range 120 {
			w = mustDo(t, w, impl.Event{Kind: impl.WorldServe})
			for len(w.Radio) > 0 {
				if twice {
					w = mustDo(t, w, impl.Event{Kind: impl.WorldBring, Keep: true})
				}
				w = mustDo(t, w, impl.Event{Kind: impl.WorldBring})
			}
		}
		return w
	}
	once, twice := run(false), run(true)
	if !slices.EqualFunc(once.Clients, twice.Clients, sameClient) || once.Clients[3].Stands != impl.ClientFull || once.Clients[2].Stands != impl.ClientLost || !impl.WorldSafe(twice) {
		t.Errorf("once %#v, twice %#v", once.Clients, twice.Clients)
	}
}

func TestP68WhatHappensOneByOne(t *testing.T) {
	for seed := range 40 {
		r := newSource(int64(6800 + seed))
		list := someEvents(r, []int{0, 1, 50, 399, 400}[r.Intn(5)])
		w := impl.WorldNew()
		for _, e := range list {
			w, _ = impl.WorldDo(w, e)
		}
		if got := impl.WorldPlay(list); !sameWorld(got, w) {
			t.Fatalf("seed %d: WorldPlay is %#v, one by one it is %#v", seed, got, w)
		}
	}
}

func TestP68PlayMax(t *testing.T) {
	list := []impl.Event{{Kind: impl.WorldPut, Name: "a", Text: "x"}}
	for len(list) < 400 {
		list = append(list, impl.Event{Kind: impl.WorldServe})
	}
	if w := impl.WorldPlay(list); w.Server.Now != 399 || len(w.Given) != 1 {
		t.Errorf("400 are played: %#v", w)
	}
	for _, more := range []int{1, 2, 400} {
		if w := impl.WorldPlay(append(slices.Clone(list), make([]impl.Event, more)...)); !sameWorld(w, newWorld()) {
			t.Errorf("%d are too many: %#v", 400+more, w)
		}
	}
	for _, none := range [][]impl.Event{nil, {}, make([]impl.Event, 400), {{Kind: tooBig}, {Kind: tooSmall}}} {
		if w := impl.WorldPlay(none); !sameWorld(w, newWorld()) {
			t.Errorf("nothing happened: %#v", w)
		}
	}
}

// wordsOfAllKinds is a world in which a word of each kind is under way, and would change something.
func wordsOfAllKinds(t *testing.T) impl.World {
	w := busyWorld(t)
	w.Radio = w.Radio[:7]
	for at := range w.Radio {
		next := mustDo(t, w, impl.Event{Kind: impl.WorldBring, At: at})
		if sameServer(next.Server, w.Server) && slices.EqualFunc(next.Clients, w.Clients, sameClient) && len(next.Radio) != 7 {
			t.Fatalf("word %d changes nothing", at)
		}
	}
	return w
}

func TestP69AWordThatIsSpoilt(t *testing.T) {
	w := wordsOfAllKinds(t)
	for at, p := range w.Radio {
		left := slices.Delete(slices.Clone(w.Radio), at, at+1)
		lost := mustDo(t, w, impl.Event{Kind: impl.WorldLose, At: at})
		if !sameServer(lost.Server, w.Server) || !slices.EqualFunc(lost.Clients, w.Clients, sameClient) || !slices.Equal(lost.Radio, left) {
			t.Errorf("word %d is lost, and it is %#v", at, lost)
		}
		for place := range len(p.Text) {
			for bit := range 8 {
				num := place + 4096*(1<<bit-1)
				spoilt, can := impl.WorldDo(w, impl.Event{Kind: impl.WorldSpoil, At: at, Num: num})
				text := []byte(p.Text)
				text[place] ^= 1 << bit
				if !can || spoilt.Radio[at] != (impl.Packet{To: p.To, Text: string(text), Spoil: true}) {
					t.Fatalf("word %d spoilt by %d is %#v", at, num, spoilt.Radio[at])
				}
				got, can := impl.WorldDo(spoilt, impl.Event{Kind: impl.WorldBring, At: at})
				if !can || !sameServer(got.Server, w.Server) || !slices.EqualFunc(got.Clients, w.Clients, sameClient) || !slices.Equal(got.Radio, left) {
					t.Fatalf("word %d, spoilt by %d, is heard: %#v", at, num, got)
				}
			}
		}
	}
}

// Each byte becomes each other one, and never itself.
func TestP69HowAByteIsSpoilt(t *testing.T) {
	w := wordsOfAllKinds(t)
	text := w.Radio[0].Text
	for way := range 600 {
		num := 3 + 4096*way
		next := mustDo(t, w, impl.Event{Kind: impl.WorldSpoil, Num: num})
		if want := text[3] ^ byte(1+way%255); next.Radio[0].Text[3] != want || want == text[3] {
			t.Errorf("by %d byte 3 becomes %d", num, next.Radio[0].Text[3])
		}
		if way%50 == 0 && mustDo(t, next, impl.Event{Kind: impl.WorldBring}).Clients[0].Stands != w.Clients[0].Stands {
			t.Errorf("by %d it is heard", num)
		}
	}
	for _, num := range []int{0, 1, len(text) - 1, len(text), len(text) + 1, 4095, 4096, 4097, 4096*254 + 4095, 4096 * 255, 4096*255 + 7, 999999, tooBig, tooBig - 4096} {
		next := mustDo(t, w, impl.Event{Kind: impl.WorldSpoil, Num: num})
		for _, again := range []int{num, 0, tooBig} {
			if stays, can := checkDo(t, next, impl.Event{Kind: impl.WorldSpoil, Num: again}); can || !sameWorld(stays, next) {
				t.Errorf("what is spoilt is not spoilt again: %#v", stays.Radio[0])
			}
		}
		checkDo(t, next, impl.Event{Kind: impl.WorldBring})
	}
}

func TestP69BehindLongPlays(t *testing.T) {
	r := newSource(69)
	for range 60 {
		w := someWorld(r)
		for at, p := range w.Radio {
			lost, can := impl.WorldDo(w, impl.Event{Kind: impl.WorldLose, At: at, Num: r.Intn(9), Keep: r.Intn(2) == 0})
			if !can || !sameServer(lost.Server, w.Server) || !slices.EqualFunc(lost.Clients, w.Clients, sameClient) || len(lost.Radio) != len(w.Radio)-1 {
				t.Fatalf("%#v is lost, and it is %#v", p, lost)
			}
			spoilt, can := impl.WorldDo(w, impl.Event{Kind: impl.WorldSpoil, At: at, Num: r.Intn(1 << 40)})
			if can == p.Spoil {
				t.Fatalf("%#v is spoilt once", p)
			}
			got, _ := impl.WorldDo(spoilt, impl.Event{Kind: impl.WorldBring, At: at})
			if !sameServer(got.Server, w.Server) || !slices.EqualFunc(got.Clients, w.Clients, sameClient) || !slices.Equal(got.Radio, lost.Radio) {
				t.Fatalf("%#v was spoilt, and is heard: %#v", p, got)
			}
		}
	}
}

// goneWorld has a thing that is given out no more, of which client 0 knows the first block, and client 2 all; how it was is told by Given alone.
func goneWorld(t *testing.T) impl.World {
	w := mustAll(t, impl.Event{Kind: impl.WorldPut, Name: "a", Text: foxText}, impl.Event{Kind: impl.WorldPut, At: 1, Name: "a", Text: foxText}, impl.Event{Kind: impl.WorldTake, Name: "a"})
	w.Clients[0], w.Clients[2] = knowing(t, 2, 0), knowing(t, 3, 0, 1, 2)
	w.Clients[0].Id, w.Clients[0].Edition, w.Clients[2].Edition = 0, 1, 1
	return w
}

func TestP70AWorldIsSafeJustIfEachClientIs(t *testing.T) {
	if w := goneWorld(t); !impl.WorldSafe(w) {
		t.Errorf("%#v is safe", w)
	}
	unsafe := map[string]func(w *impl.World){
		"another house":           func(w *impl.World) { w.Given[0].House = 1 },
		"another name":            func(w *impl.World) { w.Given[0].Name = "b" },
		"a longer text":           func(w *impl.World) { w.Given[0].Text += "x" },
		"a shorter text":          func(w *impl.World) { w.Given[0].Text = foxText[:19] },
		"another first byte":      func(w *impl.World) { w.Given[0].Text = "Xheredfoxjumpsoverit" },
		"another byte at its end": func(w *impl.World) { w.Given[0].Text = "theredfOxjumpsoverit" },
		"another last byte, of which one that is full knows": func(w *impl.World) { w.Given[0].Text = "theredfoxjumpsoveriT" },
		"a client that asked for another one":                func(w *impl.World) { w.Clients[0].Name = "b" },
		"a full client that asked for another one":           func(w *impl.World) { w.Clients[2].Name = "b" },
		"an edition of the other house":                      func(w *impl.World) { w.Clients[0].Edition = 2 },
		"a full client with an edition of the other house":   func(w *impl.World) { w.Clients[2].Edition = 2 },
		"a plan of another length":                           func(w *impl.World) { w.Clients[0].Get = impl.GetNew(impl.PlanFor(19)) },
		"a client of the other house":                        func(w *impl.World) { w.Clients[1] = knowing(t, 4, -1); w.Clients[1].Id, w.Clients[1].Edition = 1, 1 },
	}
	for what, change := range unsafe {
		w := goneWorld(t)
		change(&w)
		checkWorld(t, w)
		if !impl.WorldOk(w) || impl.WorldSafe(w) {
			t.Errorf("%s: ok, but not safe: %#v", what, w)
		}
	}
	safe := map[string]func(w *impl.World){
		"a byte that nobody knows":           func(w *impl.World) { w.Clients[2] = impl.Client{Id: 2}; w.Given[0].Text = "theredfoXjumpsoveriT" },
		"nobody knows anything":              func(w *impl.World) { w.Clients = newWorld().Clients; w.Given[0].Text = "x" },
		"an edition of which nobody is told": func(w *impl.World) { w.Clients = newWorld().Clients; w.Given[0].House = 1 },
		"who asks without an edition":        func(w *impl.World) { w.Clients[0] = impl.Client{Id: 0, Try: 1, Stands: 1, Name: "zzz"} },
		"who lost one without an edition":    func(w *impl.World) { w.Clients[0] = impl.Client{Id: 0, Try: 1, Stands: 4, Name: "zzz"} },
	}
	for what, change := range safe {
		w := goneWorld(t)
		change(&w)
		checkWorld(t, w)
		if !impl.WorldSafe(w) {
			t.Errorf("%s: safe: %#v", what, w)
		}
	}
}

// A world in which nothing is known is safe just if it is ok.
func TestP70NothingIsKnown(t *testing.T) {
	for _, w := range append(edgeWorlds(t), badWorlds(t)...) {
		for id := range w.Clients {
			if impl.ClientOk(w.Clients[id]) {
				w.Clients[id] = impl.Client{Id: w.Clients[id].Id}
			}
		}
		if impl.WorldSafe(w) != impl.WorldOk(w) {
			t.Fatalf("%#v is ok: %#v", w, impl.WorldOk(w))
		}
	}
}

func TestP71AnotherCalmChangesNothing(t *testing.T) {
	still := 0
	for seed := range 120 {
		r := newSource(int64(7100 + seed))
		w := impl.WorldCalm(someWorld(r), 1+r.Intn(7))
		if !impl.WorldStill(w) {
			continue
		}
		still++
		more := impl.WorldCalm(w, 1)
		if !slices.EqualFunc(more.Clients, w.Clients, sameClient) || len(w.Server.Serves) != 0 || len(w.Radio) != 0 {
			t.Fatalf("seed %d: behind %#v comes %#v", seed, w, more)
		}
		// But for the time, and what comes to buckets with it.
		more.Server.Now, more.Server.Buckets = w.Server.Now, w.Server.Buckets
		if !sameWorld(more, w) {
			t.Fatalf("seed %d: behind %#v comes %#v", seed, w, more)
		}
		for range 90 {
			served, can := impl.WorldDo(w, impl.Event{Kind: impl.WorldServe})
			if !can || len(served.Radio) != 0 {
				t.Fatalf("seed %d: somebody is told something: %#v", seed, served.Radio)
			}
			w = served
		}
	}
	if still < 100 {
		t.Errorf("only %d worlds were still", still)
	}
}

func TestWorldStill(t *testing.T) {
	for stands, want := range []bool{true, false, false, true, true} {
		for id := range 4 {
			w := goneWorld(t)
			w.Clients = newWorld().Clients
			c := []impl.Client{{}, knowing(t, 1), knowing(t, 2, 0), knowing(t, 3, 0, 1, 2), knowing(t, 4)}[stands]
			c.Id = id
			if c.Edition > 0 {
				c.Edition = 1
			}
			w.Clients[id] = c
			if got := impl.WorldStill(w); got != want || !impl.WorldOk(w) {
				t.Errorf("client %d stands with %d: still is %#v", id, stands, got)
			}
		}
	}
}

// A full Radio takes no more words, but what happens can be all the same.
func TestWordsThatFindNoRoom(t *testing.T) {
	w := mustAll(t, impl.Event{Kind: impl.WorldPut, Name: "a", Text: foxText}, impl.Event{Kind: impl.WorldOpen, Name: "a"}, impl.Event{Kind: impl.WorldBring, Keep: true}, impl.Event{Kind: impl.WorldBring, At: 1})
	for len(w.Radio) < 59 {
		w = mustDo(t, w, impl.Event{Kind: impl.WorldTick})
	}
	for _, e := range []impl.Event{{Kind: impl.WorldServe}, {Kind: impl.WorldTick}, {Kind: impl.WorldOpen, At: 1, Name: "b"}, {Kind: impl.WorldAgain}, {Kind: impl.WorldStop}, {Kind: impl.WorldBring, At: 3, Keep: true}} {
		full := mustDo(t, w, e)
		if len(full.Radio) != 60 || !slices.Equal(full.Radio[:59], w.Radio) {
			t.Fatalf("%#v sends the sixtieth word: %#v", e, full.Radio)
		}
		for _, more := range []impl.Event{{Kind: impl.WorldServe}, {Kind: impl.WorldTick, At: 1}, {Kind: impl.WorldOpen, At: 2, Name: "a"}, {Kind: impl.WorldBring, Keep: true}} {
			if more.Kind == impl.WorldTick && e.Kind != impl.WorldOpen {
				more.Kind, more.Name = impl.WorldOpen, "b"
			}
			next := mustDo(t, full, more)
			if !slices.Equal(next.Radio, full.Radio) || !impl.WorldOk(next) {
				t.Errorf("%#v finds no room behind %#v: %#v", more, e, next.Radio)
			}
		}
		// A word that goes makes room for its answer.
		next := mustDo(t, full, impl.Event{Kind: impl.WorldBring, At: 7})
		if len(next.Radio) < 59 || !slices.Equal(next.Radio[:59], slices.Delete(slices.Clone(full.Radio), 7, 8)) {
			t.Errorf("the answer of the word that goes: %#v", next.Radio)
		}
	}
}

// Words come behind all that are under way, to their client or to the server, as they are written.
func TestWhereWordsAreSent(t *testing.T) {
	list := []impl.Event{{Kind: impl.WorldPut, At: 1, Name: "a", Text: foxText}, {Kind: impl.WorldOpen, At: 3, Name: "a"}, {Kind: impl.WorldOpen, Name: "a"}, {Kind: impl.WorldBring}, {Kind: impl.WorldServe}, {Kind: impl.WorldBring}}
	var want []impl.Packet
	for i, word := range []impl.Word{{Kind: impl.WordAccept, Client: 3, Try: 1, Edition: 1, Data: "20/8:1,3:2,3"}, {Kind: impl.WordSymbol, Client: 3, Try: 1, Edition: 1, Data: "theredfo"}, {Kind: impl.WordGone, Try: 1}} {
		want = append(want, impl.Packet{To: []int{3, 3, 0}[i], Text: impl.WordWrite(word)})
	}
	if w := mustAll(t, list...); !slices.Equal(w.Radio, want) {
		t.Errorf("under way are %#v, not %#v", w.Radio, want)
	}
	asks := mustAll(t, impl.Event{Kind: impl.WorldOpen, At: 2, Name: "b"}, impl.Event{Kind: impl.WorldTick, At: 2}).Radio
	ask := impl.Packet{To: impl.ToServer, Text: impl.WordWrite(impl.Word{Kind: impl.WordOpen, Client: 2, Try: 1, Name: "b"})}
	if !slices.Equal(asks, []impl.Packet{ask, ask}) {
		t.Errorf("asks are %#v", asks)
	}
}

func TestP72EachIsToldInALineOfTheBoard(t *testing.T) {
	w := busyWorld(t)
	want := "server up, 3 things of 4, 3 told\n  house 0 a edition 1, 20 bytes\n  house 0 b edition 2, 300 bytes\n  house 1 a edition 3, 16 bytes\nclient 0 gets, try 2, a edition 1, knows 8 of 20\nclient 1 asks, try 1\nclient 2 full, try 3, a edition 1, knows 20 of 20\nclient 3 lost, try 9, c edition 4, knows 0 of 9\n10 under way\n"
	if got := impl.WorldBoard(w); got != want {
		t.Errorf("the board is %q", got)
	}
	down := downWorld(t, "", 0)
	if got := impl.WorldBoard(down); got != "server down\n"+want[strings.Index(want, "client 0"):] {
		t.Errorf("the board is %q", got)
	}
	if got := impl.WorldBoard(impl.WorldNew()); got != "server up, 0 things of 0, 0 told\nclient 0 idle, try 0\nclient 1 idle, try 0\nclient 2 idle, try 0\nclient 3 idle, try 0\n0 under way\n" {
		t.Errorf("the board is %q", got)
	}
	for seed := range 100 {
		w := someWorld(newSource(int64(7200 + seed)))
		board := impl.WorldBoard(w)
		if board != wantBoard(w) {
			t.Fatalf("seed %d: the board is %q, not %q", seed, board, wantBoard(w))
		}
		lines := strings.Split(strings.TrimSuffix(board, "\n"), "\n")
		if len(lines) != 1+len(w.Server.Cat.Items)+4+1 || lines[len(lines)-1] != fmt.Sprint(len(w.Radio), " under way") {
			t.Fatalf("seed %d: the board is %q", seed, board)
		}
	}
}
