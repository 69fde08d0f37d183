package tests

import (
	"fmt"
	"slices"
	"strings"
	"testing"

	"loop.example/wellhead/impl"
)

// busyRecords are what busyServer gave out: editions 1 and 2 of house 0, 3 of house 1, and 4, which is gone.
func busyRecords() []string {
	return []string{"0 a:theredfoxjumpsoverit", "0 b:" + strings.Repeat("long", 75), "1 a:thing of a house", "1 c:gone soon", "1 c:"}
}

// busyServer is up, and all of it is something.
func busyServer() impl.Server {
	said, _ := catSaid(busyRecords())
	s := impl.Server{Up: true, Now: 7, Log: logOf(busyRecords()), Cat: said, Pool: emptyPool()}
	s.Pool.Hand = 3
	s.Pool.Frames[0] = impl.Frame{House: 0, Edition: 1, Block: 2, Used: true}
	s.Pool.Frames[2] = impl.Frame{House: 1, Edition: 3, Block: 1}
	s.Pool.Frames[7] = impl.Frame{House: 0, Edition: 2, Block: 23}
	s.Buckets = []impl.Bucket{{Level: 20, Most: 40, Rate: 8, At: 7}, {Level: 12, Most: 40, Rate: 8, At: 5}}
	s.Serves = []impl.Serve{{Client: 0, Try: 2, Edition: 1, Next: 3, Windows: 1, Since: 6}, {Client: 1, Try: 1, Edition: 3, Since: 5}, {Client: 3, Try: 99999, Edition: 4, Next: 9999, Windows: 3}}
	return s
}

// turned is busyServer with one change.
func turned(change func(s *impl.Server)) impl.Server {
	s := busyServer()
	change(&s)
	return s
}

// longRecords are records of which a log has just so many bytes; at the last there is `a` of both houses.
func longRecords(t *testing.T, bytes int) []string {
	t.Helper()
	var records []string
	for bytes-len(logOf(records)) > 600 {
		records = append(records, "0 a:"+strings.Repeat("x", 300), "0 a:")
	}
	left := bytes - len(logOf(records))
	for first := range 300 {
		one := "0 a:" + strings.Repeat("x", 1+first)
		rest := left - len(lineOf(len(records), one))
		// The line of the last record has its text, its number, and some 28 bytes.
		for second := max(rest-40, 0); second < min(rest, 300); second++ {
			other := "1 a:" + strings.Repeat("y", 1+second)
			if len(lineOf(len(records)+1, other)) == rest {
				return append(records, one, other)
			}
		}
	}
	t.Fatalf("no log of %d bytes", bytes)
	return nil
}

// longServer is a server with a log of just so many bytes.
func longServer(t *testing.T, bytes int) impl.Server {
	t.Helper()
	s := impl.ServerNew()
	records := longRecords(t, bytes)
	s.Log = logOf(records)
	s.Cat, _ = catSaid(records)
	return s
}

// outside are numbers that are below 0, or above a limit.
func outside(most int) []int {
	return []int{-1, most + 1, tooBig, tooSmall}
}

// badTimes are servers whose time, or whose log, is not ok.
func badTimes(t *testing.T) []impl.Server {
	var bad []impl.Server
	for _, now := range append(outside(99999), 0, 6) {
		bad = append(bad, turned(func(s *impl.Server) { s.Now = now }))
	}
	for _, now := range outside(99999) {
		bad = append(bad, impl.Server{Now: now})
	}
	records := busyRecords()
	for _, log := range []string{
		"", logOf(records[:4]), logOf(append(busyRecords(), "0 c:x")), logOf(records)[1:], logOf(records) + "\n", logOf(records) + "5 4 ", strings.TrimSuffix(logOf(records), "\n"), strings.Repeat("x", 100), logOf(append(busyRecords(), "1 c:")), logOf(append(busyRecords(), "no record")),
		logOf([]string{records[1], records[0], records[2], records[3], records[4]}), logOf([]string{records[0], records[1], records[2], "1 d:gone soon", "1 d:"}) + "x",
	} {
		bad = append(bad, turned(func(s *impl.Server) { s.Log = log }))
	}
	for _, bytes := range []int{9001, 9002, 9500} {
		long := longServer(t, bytes)
		bad = append(bad, long, impl.Server{Log: long.Log})
	}
	for _, log := range []string{logOf([]string{"no record"}), logOf([]string{"0 a:"}), logOf([]string{"0 a:x", "0 a:y"}), logOf([]string{"0 a:x", "2 a:y"}) + "torn", strings.Repeat("x", 9001)} {
		bad = append(bad, impl.Server{Log: log}, turned(func(s *impl.Server) { s.Log = log }))
	}
	return bad
}

// badCatalogues are servers that know something else than their log says.
func badCatalogues() []impl.Server {
	var bad []impl.Server
	for _, change := range []func(c *impl.Cat){
		func(c *impl.Cat) { c.Last++ }, func(c *impl.Cat) { c.Last-- }, func(c *impl.Cat) { c.Last = tooBig }, func(c *impl.Cat) { c.Last = -1 },
		func(c *impl.Cat) { c.Items[2].Text = "thing of a mouse" }, func(c *impl.Cat) { c.Items[1].Name = "bb" }, func(c *impl.Cat) { c.Items[1].Edition = 4 }, func(c *impl.Cat) { c.Items[2].House = 0 },
		func(c *impl.Cat) {
			c.Items = append(c.Items, impl.Item{House: 1, Name: "c", Edition: 4, Text: "gone soon"})
		},
		func(c *impl.Cat) { c.Items[0], c.Items[1] = c.Items[1], c.Items[0] },
	} {
		bad = append(bad, turned(func(s *impl.Server) { change(&s.Cat) }))
	}
	for _, cat := range badCats() {
		bad = append(bad, turned(func(s *impl.Server) { s.Cat, s.Pool, s.Serves = cat, emptyPool(), nil }))
	}
	// Without anything else that could show it.
	bare := func(cat impl.Cat) impl.Server {
		return turned(func(s *impl.Server) { s.Cat, s.Pool, s.Serves = cat, emptyPool(), nil })
	}
	said, _ := catSaid(busyRecords()[:4])
	return append(bad, bare(impl.Cat{}), bare(impl.Cat{Last: 4}), bare(said))
}

// badServerPools are servers whose pool is not ok, or has what there is not.
func badServerPools() []impl.Server {
	var bad []impl.Server
	for _, pool := range badPools() {
		bad = append(bad, turned(func(s *impl.Server) { s.Pool = pool }))
	}
	for _, frame := range []impl.Frame{
		{House: 0, Edition: 1, Block: 0, Held: 1}, {House: 0, Edition: 1, Block: 0, Held: 99999}, {House: 0, Edition: 1, Block: 0, Held: -1}, {House: 0, Edition: 1, Block: 0, Held: tooBig, Used: true},
		{House: 0, Edition: 4, Block: 0}, {House: 1, Edition: 4, Block: 0, Used: true}, {House: 0, Edition: 5}, {House: 1, Edition: 99999}, {House: 0, Edition: 100000}, {House: 0, Edition: -1}, {House: 0, Edition: tooSmall},
		{House: 1, Edition: 1, Block: 0}, {House: 0, Edition: 3, Block: 0}, {House: 2, Edition: 1, Block: 0}, {House: -1, Edition: 1, Block: 0},
		{House: 0, Edition: 1, Block: 3}, {House: 1, Edition: 3, Block: 2}, {House: 0, Edition: 2, Block: 24}, {House: 0, Edition: 1, Block: -1}, {House: 0, Edition: 1, Block: tooBig}, {House: 0, Edition: 1, Block: tooSmall},
		{House: 0, Edition: 1, Block: 2}, {House: 1}, {Block: 1}, {Held: 1}, {Used: true},
	} {
		bad = append(bad, turned(func(s *impl.Server) { s.Pool.Frames[5] = frame }))
	}
	for _, pool := range []impl.Pool{{}, {Frames: make([]impl.Frame, 7)}, {Frames: make([]impl.Frame, 9)}, {Frames: make([]impl.Frame, 8), Hand: 8}, {Frames: make([]impl.Frame, 8), Hand: -1}} {
		bad = append(bad, turned(func(s *impl.Server) { s.Pool = pool }))
	}
	return append(bad, turned(func(s *impl.Server) {
		for block := range 6 {
			s.Pool.Frames[block] = impl.Frame{House: 0, Edition: 2, Block: block}
		}
	}))
}

// badBucketsOfServers are servers whose buckets are others.
func badBucketsOfServers() []impl.Server {
	good := busyServer().Buckets
	lists := [][]impl.Bucket{nil, good[:1], slices.Concat(good, good[:1]), {{}, {}}}
	for _, bucket := range append(badBuckets(), impl.Bucket{Most: 40, Rate: 7}, impl.Bucket{Most: 40, Rate: 9}, impl.Bucket{Most: 39, Rate: 8}, impl.Bucket{Most: 41, Rate: 8}, impl.Bucket{Most: 40, Rate: 8, Level: 41}, impl.Bucket{Most: 40, Rate: 8, Level: -1}, impl.Bucket{Most: 40, Rate: 8, At: 8}, impl.Bucket{Most: 40, Rate: 8, At: -1}, impl.Bucket{Most: 40, Rate: 8, At: tooBig}, impl.Bucket{}) {
		lists = append(lists, []impl.Bucket{bucket, good[1]}, []impl.Bucket{good[0], bucket})
	}
	var bad []impl.Server
	for _, list := range lists {
		bad = append(bad, turned(func(s *impl.Server) { s.Buckets = list }))
	}
	return bad
}

// badServes are servers that tell somebody something who may not be told it.
func badServes() []impl.Server {
	var bad []impl.Server
	add := func(change func(serve *impl.Serve)) {
		for place := range 3 {
			bad = append(bad, turned(func(s *impl.Server) { change(&s.Serves[place]) }))
		}
	}
	for _, number := range outside(3) {
		add(func(serve *impl.Serve) { serve.Client = number })
		add(func(serve *impl.Serve) { serve.Windows = number })
	}
	for _, number := range append(outside(99999), 0) {
		add(func(serve *impl.Serve) { serve.Try = number })
	}
	for _, number := range append(outside(4), 0, 99999) {
		add(func(serve *impl.Serve) { serve.Edition = number })
	}
	for _, number := range outside(9999) {
		add(func(serve *impl.Serve) { serve.Next = number })
	}
	for _, number := range outside(7) {
		add(func(serve *impl.Serve) { serve.Since = number })
	}
	for _, change := range []func(list []impl.Serve){
		func(list []impl.Serve) { list[0].Edition = 3 }, func(list []impl.Serve) { list[1].Edition = 1 }, func(list []impl.Serve) { list[2].Edition = 2 },
		func(list []impl.Serve) { list[0].Client = 1 }, func(list []impl.Serve) { list[1].Client = 3 }, func(list []impl.Serve) { list[1].Client = 0; list[1].Edition = 4 },
		func(list []impl.Serve) { list[0], list[1] = list[1], list[0] }, func(list []impl.Serve) { list[1], list[2] = list[2], list[1] }, func(list []impl.Serve) { list[2] = list[1] },
	} {
		bad = append(bad, turned(func(s *impl.Server) { change(s.Serves) }))
	}
	return append(bad, turned(func(s *impl.Server) { s.Serves = append(s.Serves, impl.Serve{Client: 4, Try: 1, Edition: 4}) }))
}

// badDown are servers that are down, but of which something else is not nothing.
func badDown() []impl.Server {
	busy := busyServer()
	down := impl.Server{Now: busy.Now, Log: busy.Log}
	var bad []impl.Server
	for _, change := range []func(s *impl.Server){
		func(s *impl.Server) { s.Cat = busy.Cat }, func(s *impl.Server) { s.Cat.Last = 4 }, func(s *impl.Server) { s.Cat.Last = -1 }, func(s *impl.Server) { s.Cat.Items = busy.Cat.Items }, func(s *impl.Server) { s.Cat.Items = make([]impl.Item, 1) },
		func(s *impl.Server) { s.Pool = emptyPool() }, func(s *impl.Server) { s.Pool.Hand = 1 }, func(s *impl.Server) { s.Pool.Hand = -1 }, func(s *impl.Server) { s.Pool.Frames = make([]impl.Frame, 1) },
		func(s *impl.Server) { s.Buckets = busy.Buckets }, func(s *impl.Server) { s.Buckets = make([]impl.Bucket, 1) }, func(s *impl.Server) { s.Serves = busy.Serves }, func(s *impl.Server) { s.Serves = make([]impl.Serve, 1) },
	} {
		s := down
		change(&s)
		bad = append(bad, s)
		s.Log += "5 torn"
		bad = append(bad, s)
	}
	busy.Up = false
	return append(bad, busy)
}

// badServers are not ok, each by one thing alone.
func badServers(t *testing.T) []impl.Server {
	t.Helper()
	return slices.Concat(badTimes(t), badCatalogues(), badServerPools(), badBucketsOfServers(), badServes(), badDown())
}

// edgeServers are ok, each at a limit.
func edgeServers(t *testing.T) []impl.Server {
	t.Helper()
	servers := []impl.Server{impl.ServerNew(), busyServer(), {}, {Now: 99999}, {Log: "torn"}, {Log: strings.Repeat("x", 9000)}, longServer(t, 9000), {Now: 1, Log: longServer(t, 9000).Log}, {Now: 5, Log: busyServer().Log + "5 4 "}}
	for _, change := range []func(s *impl.Server){
		func(s *impl.Server) { s.Now = 99999 }, func(s *impl.Server) { s.Now = 99998 }, func(s *impl.Server) { s.Now, s.Serves[0].Since = 99999, 99999 }, func(s *impl.Server) { s.Serves[0].Since = 7 }, func(s *impl.Server) { s.Serves[1].Since = 0 },
		func(s *impl.Server) { s.Serves[0].Try = 99999 }, func(s *impl.Server) { s.Serves[2].Try = 1 }, func(s *impl.Server) { s.Serves[0].Edition = 4 }, func(s *impl.Server) { s.Serves[0].Edition = 2 }, func(s *impl.Server) { s.Serves[0].Next = 9999 }, func(s *impl.Server) { s.Serves[1].Windows = 3 },
		func(s *impl.Server) { s.Serves[0].Client = 0 }, func(s *impl.Server) { s.Serves = s.Serves[2:] }, func(s *impl.Server) { s.Serves = nil },
		func(s *impl.Server) { s.Serves = slices.Insert(s.Serves, 2, impl.Serve{Client: 2, Try: 1, Edition: 1}) },
		func(s *impl.Server) { s.Buckets[0] = impl.Bucket{Level: 40, Most: 40, Rate: 8, At: 7} }, func(s *impl.Server) { s.Buckets[1] = impl.Bucket{Most: 40, Rate: 8} },
		func(s *impl.Server) { s.Pool = emptyPool() }, func(s *impl.Server) { s.Pool.Frames[5] = impl.Frame{House: 1, Edition: 3, Block: 0, Used: true} }, func(s *impl.Server) { s.Pool.Hand = 7 },
	} {
		servers = append(servers, turned(change))
	}
	return servers
}

// checkAllCalls holds all that a server does against the model.
func checkAllCalls(t *testing.T, s impl.Server) {
	t.Helper()
	checkServerOk(t, s)
	checkServerPut(t, s, 1, "new", "x")
	checkServerPut(t, s, 0, "a", "x")
	checkServerPut(t, s, 2, "a", "x")
	checkServerTake(t, s, 1, "a")
	checkServerTake(t, s, 1, "none")
	checkServerTick(t, s)
	for _, record := range []string{"0 c:more", "1 a:", "0 a:x", ""} {
		for _, bytes := range []int{0, 5, 99} {
			checkServerFall(t, s, record, bytes)
		}
	}
	checkServerRise(t, s)
	for client := range 5 {
		for _, edition := range []int{0, 3, 4} {
			checkServerHear(t, s, impl.Word{Kind: impl.WordOpen, Client: client, Try: 2, Edition: edition, Name: "a"})
			checkServerHear(t, s, impl.Word{Kind: impl.WordDone, Client: client, Try: 1, Edition: edition})
		}
	}
}

func TestServerOk(t *testing.T) {
	for i, s := range edgeServers(t) {
		if !impl.ServerOk(s) || !serverHasForm(s) {
			t.Errorf("server %d is ok: %#v", i, s)
		}
		checkAllCalls(t, s)
	}
	for i, s := range badServers(t) {
		if impl.ServerOk(s) || serverHasForm(s) {
			t.Errorf("server %d is not ok: %#v", i, s)
		}
		checkAllCalls(t, s)
	}
}

// Servers behind many steps are ok, and each number moved by one is held against the document.
func TestServerOkOfMovedOnes(t *testing.T) {
	r := newSource(120)
	for range 1500 {
		s := copyServer(anyServer(r))
		checkServerOk(t, s)
		numbers := []*int{&s.Now, &s.Cat.Last, &s.Pool.Hand}
		for i := range s.Pool.Frames {
			frame := &s.Pool.Frames[i]
			numbers = append(numbers, &frame.House, &frame.Edition, &frame.Block, &frame.Held)
		}
		for i := range s.Buckets {
			b := &s.Buckets[i]
			numbers = append(numbers, &b.Level, &b.Most, &b.Rate, &b.At)
		}
		for i := range s.Serves {
			serve := &s.Serves[i]
			numbers = append(numbers, &serve.Client, &serve.Try, &serve.Edition, &serve.Next, &serve.Windows, &serve.Since)
		}
		*numbers[r.Intn(len(numbers))] += []int{-1, 1, 2, 10000}[r.Intn(4)]
		checkServerOk(t, s)
		checkServerTick(t, s)
	}
}

func TestServerNew(t *testing.T) {
	full := impl.Bucket{Level: 40, Most: 40, Rate: 8}
	want := impl.Server{Up: true, Pool: impl.Pool{Frames: make([]impl.Frame, 8)}, Buckets: []impl.Bucket{full, full}}
	if got := impl.ServerNew(); !sameServer(got, want) || !impl.ServerOk(got) {
		t.Errorf("ServerNew is %#v", got)
	}
}

func TestP45WhatAServerGivesOut(t *testing.T) {
	r := newSource(121)
	for range 400 {
		s := someServer(r)
		for range 6 {
			house, name, text := r.Intn(3), []string{"a", "ab", "b", "c", ""}[r.Intn(5)], serveTexts()[r.Intn(10)]
			next, code := checkServerPut(t, s, house, name, text)
			if code != impl.CatDone {
				if !sameServer(next, s) {
					t.Fatalf("with the code %d ServerPut changes something", code)
				}
				continue
			}
			records, _ := impl.LogRead(next.Log)
			said, ok := impl.CatOf(records)
			put, _ := impl.CatPut(s.Cat, house, name, text)
			if !ok || !sameCat(said, next.Cat) || !sameCat(put, next.Cat) || !impl.ServerOk(next) {
				t.Fatalf("ServerPut is %#v", next)
			}
			s = next
		}
	}
}

func TestP45CodesInTheirOrder(t *testing.T) {
	s := busyServer()
	for _, call := range oddCalls() {
		if got, code := checkServerPut(t, s, call.House, call.Name, call.Text); code != impl.CatBad || !sameServer(got, s) {
			t.Errorf("ServerPut of %d, %q and %d bytes is %d", call.House, call.Name, len(call.Text), code)
		}
	}
	cases := []struct {
		house      int
		name, text string
		code       int
	}{
		{0, "a", "x", impl.CatThere}, {1, "a", strings.Repeat("x", 300), impl.CatThere}, {0, "a", strings.Repeat("x", 301), impl.CatBad}, {1, "c", "x", impl.CatDone}, {1, "b", strings.Repeat("x", 300), impl.CatDone},
		{0, "c", strings.Repeat("x", 180), impl.CatDone}, {0, "c", strings.Repeat("x", 181), impl.CatFull}, {-1, "a", "x", impl.CatBad},
	}
	for _, c := range cases {
		if _, code := checkServerPut(t, s, c.house, c.name, c.text); code != c.code {
			t.Errorf("ServerPut of %d, %q and %d bytes is %d", c.house, c.name, len(c.text), code)
		}
	}
	// A code of the catalogue comes ahead of a log without room.
	full := longServer(t, 9000)
	for _, c := range []struct {
		house int
		name  string
		code  int
	}{{0, "a", impl.CatThere}, {2, "a", impl.CatBad}, {0, "b", impl.CatFull}, {1, "b", impl.CatFull}} {
		if got, code := checkServerPut(t, full, c.house, c.name, "x"); code != c.code || !sameServer(got, full) {
			t.Errorf("ServerPut of %d and %q into a full log is %d", c.house, c.name, code)
		}
	}
}

// A log that has just room for a record, and one that has a byte less.
func TestP45ALogWithoutRoom(t *testing.T) {
	put, take := "1 b:0123456789", "1 a:"
	for _, record := range []string{put, take} {
		// Its number hangs on how many records there are, and has two figures here.
		line := len(lineOf(50, record))
		for _, room := range []int{line, line - 1, line + 1, 0, 1} {
			s := longServer(t, 9000-room)
			if records, _ := impl.LogRead(s.Log); !within(len(records), 10, 99) {
				t.Fatalf("%d records", len(records))
			}
			want := impl.CatDone
			if room < line {
				want = impl.CatFull
			}
			got, code := checkServerPut(t, s, 1, "b", "0123456789")
			if record == take {
				s.Pool.Frames[3] = impl.Frame{House: 1, Edition: s.Cat.Last, Block: 0}
				got, code = checkServerTake(t, s, 1, "a")
			}
			if code != want || code == impl.CatFull && !sameServer(got, s) || room == line && len(got.Log) != 9000 {
				t.Errorf("%q into a log of %d bytes is %d", record, len(s.Log), code)
			}
			if down := checkServerFall(t, s, record, 9); (len(down.Log) == len(s.Log)+9) != (room >= line) {
				t.Errorf("a fall of a log of %d bytes leaves %d", len(s.Log), len(down.Log))
			}
			checkServerFall(t, s, record, 999)
		}
	}
}

func TestP46WhatIsTakenIsToldNoMore(t *testing.T) {
	r := newSource(122)
	takes := 0
	for range 400 {
		s := someServer(r)
		for range 3 {
			house, name := r.Intn(2), someName(r)
			item, given := impl.CatGet(s.Cat, house, name)
			next, code := checkServerTake(t, s, house, name)
			if given != (code == impl.CatDone) {
				t.Fatalf("ServerTake of %d and %q is %d", house, name, code)
			}
			if code != impl.CatDone {
				continue
			}
			takes++
			s = next
			if !impl.ServerOk(s) || slices.ContainsFunc(s.Pool.Frames, func(frame impl.Frame) bool { return frame.Edition == item.Edition }) {
				t.Fatalf("behind ServerTake of the edition %d the pool is %#v", item.Edition, s.Pool)
			}
			for range 12 {
				ticked, words := checkServerTick(t, s)
				s = ticked
				if len(words) > 0 && words[0].Kind == impl.WordSymbol && words[0].Edition == item.Edition {
					t.Fatalf("the edition %d is told behind ServerTake", item.Edition)
				}
			}
		}
	}
	if takes < 100 {
		t.Errorf("only %d takes", takes)
	}
}

// What is not there, and what another house has, cannot be taken.
func TestP46WhatIsNotThere(t *testing.T) {
	s := busyServer()
	for _, call := range append(oddCalls(), impl.Item{House: 1, Name: "b"}, impl.Item{House: 1, Name: "c"}, impl.Item{House: 0, Name: "c"}, impl.Item{House: 0, Name: "aa"}) {
		_, there := impl.CatGet(s.Cat, call.House, call.Name)
		want := impl.CatNone
		if there {
			want = impl.CatDone
		}
		if got, code := checkServerTake(t, s, call.House, call.Name); code != want || code != 0 && !sameServer(got, s) {
			t.Errorf("ServerTake of %d and %q is %d", call.House, call.Name, code)
		}
	}
	// Blocks of other editions stay, and so do all that are told something.
	got, _ := checkServerTake(t, s, 0, "a")
	if got.Pool.Frames[0] != (impl.Frame{}) || got.Pool.Frames[7] != s.Pool.Frames[7] || got.Pool.Frames[2] != s.Pool.Frames[2] || got.Pool.Hand != 3 || !slices.Equal(got.Serves, s.Serves) || got.Now != 7 {
		t.Errorf("ServerTake is %#v", got)
	}
}

// A thing is taken, and given out anew, while it is told.
func TestP46GivenOutAnewWhileItIsTold(t *testing.T) {
	s := busyServer()
	s.Serves = s.Serves[:1]
	s, _ = checkServerTake(t, s, 0, "a")
	s, code := checkServerPut(t, s, 0, "a", "anotherfoxjumpsovery")
	if code != impl.CatDone {
		t.Fatal(code)
	}
	// Whoever was told the old edition asks for it, or for any, in the same try.
	old, words := checkServerHear(t, s, impl.Word{Kind: impl.WordOpen, Client: 0, Try: 2, Edition: 1, Name: "a"})
	if len(words) != 1 || words[0] != (impl.Word{Kind: impl.WordGone, Client: 0, Try: 2, Edition: 1}) || !slices.Equal(old.Serves, s.Serves) {
		t.Errorf("the old edition is answered by %#v", words)
	}
	anew, words := checkServerHear(t, s, impl.Word{Kind: impl.WordOpen, Client: 0, Try: 2, Name: "a"})
	if len(words) != 1 || words[0] != (impl.Word{Kind: impl.WordAccept, Client: 0, Try: 2, Edition: 5, Data: "20/8:1,3:2,3"}) || !slices.Equal(anew.Serves, []impl.Serve{{Client: 0, Try: 2, Edition: 5, Since: 7}}) {
		t.Errorf("the new edition is answered by %#v: %#v", words, anew.Serves)
	}
	gone, words := checkServerTick(t, s)
	if len(words) != 1 || words[0] != (impl.Word{Kind: impl.WordGone, Client: 0, Try: 2, Edition: 1}) || len(gone.Serves) != 0 || gone.Buckets[0].Level != 28 {
		t.Errorf("the old edition is told by %#v", words)
	}
	_, words = checkServerTick(t, anew)
	if len(words) != 1 || words[0].Edition != 5 || words[0].Data != "anotherf" || words[0].Num != 0 {
		t.Errorf("the new edition is told by %#v", words)
	}
}

func TestP47WhatAServerTells(t *testing.T) {
	r := newSource(123)
	kinds := map[int]int{}
	for range 500 {
		s := someServer(r)
		for range 12 {
			next, words := checkServerTick(t, s)
			if len(words) > 1 || !impl.ServerOk(next) || next.Log != s.Log || !sameCat(next.Cat, s.Cat) {
				t.Fatalf("ServerTick is %#v %#v", next, words)
			}
			for _, w := range words {
				kinds[w.Kind]++
				item, given := impl.CatEdition(s.Cat, w.Edition)
				symbol, _ := impl.PlanSymbol(impl.PlanFor(len(item.Text)), item.Text, w.Num)
				isSymbol := w.Kind == impl.WordSymbol && given && item.House == w.Client%2 && w.Data == symbol
				isGone := w.Kind == impl.WordGone && !given
				if !impl.WordOk(w) || !isSymbol && !isGone {
					t.Fatalf("ServerTick tells %#v", w)
				}
			}
			s = next
			switch r.Intn(6) {
			case 0, 1:
				s = someStep(r, s)
			case 2:
				s, _ = wantServerTake(s, r.Intn(2), someName(r))
			}
		}
	}
	if kinds[impl.WordSymbol] < 500 || kinds[impl.WordGone] < 50 {
		t.Errorf("told: %v", kinds)
	}
}

// A bucket that has just as much as the size of a plan, and one that has one less.
func TestP47ABucketThatHasJustEnough(t *testing.T) {
	for _, c := range []struct{ long, size int }{{1, 8}, {16, 8}, {192, 8}, {193, 9}, {216, 9}, {217, 10}, {300, 13}} {
		records := []string{"1 a:" + strings.Repeat("x", c.long)}
		said, _ := catSaid(records)
		for _, level := range []int{c.size - 1, c.size, c.size + 1, 40} {
			s := impl.ServerNew()
			s.Log, s.Cat = logOf(records), said
			// With the tick 8 come, if there is room for them.
			s.Buckets[1].Level = level - 8
			if level == 40 {
				s.Buckets[1].Level = 40
			}
			if s.Buckets[1].Level < 0 {
				continue
			}
			s.Serves = []impl.Serve{{Client: 1, Try: 1, Edition: 1}, {Client: 3, Try: 4, Edition: 1, Windows: 2}}
			next, words := checkServerTick(t, s)
			if want := level >= c.size; (len(words) == 1) != want || want && (next.Buckets[1].Level != level-c.size || words[0].Client != 1) || !want && next.Buckets[1].Level != level {
				t.Errorf("with %d of %d ServerTick tells %#v, and leaves %d", level, c.size, words, next.Buckets[1].Level)
			}
			if next.Now != 1 || next.Buckets[0].At != 1 || next.Buckets[1].At != 1 {
				t.Errorf("ServerTick is %#v", next)
			}
		}
	}
}

// A thing of the size 13 is told just as often as 8 with each tick are enough for it.
func TestP47AnEmptyBucket(t *testing.T) {
	s := busyServer()
	s.Now, s.Buckets[0].At, s.Buckets[0].Level = 7, 7, 0
	s.Serves = []impl.Serve{{Client: 0, Try: 1, Edition: 2, Since: 7}} // of the size 13
	var out []string
	for range 8 {
		next, words := checkServerTick(t, s)
		out = append(out, fmt.Sprint(len(words), "/", next.Buckets[0].Level))
		s = next
	}
	if got := strings.Join(out, " "); got != "0/8 1/3 0/11 1/6 1/1 0/9 1/4 0/12" {
		t.Error(got)
	}
}

// Two houses, one of which has too little in its bucket: the other one is told, though it is worth less.
func TestP47OneHouseHasTooLittle(t *testing.T) {
	s := busyServer()
	s.Serves = []impl.Serve{{Client: 0, Try: 1, Edition: 2, Since: 0}, {Client: 1, Try: 1, Edition: 3, Windows: 3, Since: 7}, {Client: 2, Try: 1, Edition: 1, Since: 1}, {Client: 3, Try: 1, Edition: 3, Windows: 3, Since: 7}}
	s.Buckets[0].Level = 4 // 12 with the tick, of 13: nor is client 2 told, though it would need but 8
	next, words := checkServerTick(t, s)
	if len(words) != 1 || words[0].Client != 1 || next.Buckets[0].Level != 12 {
		t.Errorf("ServerTick tells %#v", words)
	}
	s.Buckets[0].Level = 5
	next, words = checkServerTick(t, s)
	if len(words) != 1 || words[0].Client != 0 || next.Buckets[0].Level != 0 || next.Buckets[1].Level != 36 {
		t.Errorf("ServerTick tells %#v", words)
	}
	// Where nobody is ready nothing is told, but the time passes.
	s.Buckets[0].Level = 4
	s.Serves = []impl.Serve{s.Serves[0], s.Serves[2]}
	next, words = checkServerTick(t, s)
	if len(words) != 0 || next.Now != 8 || !slices.Equal(next.Serves, s.Serves) {
		t.Errorf("ServerTick tells %#v: %#v", words, next)
	}
	// Of an edition that is gone nothing is taken out of a bucket, even of an empty one.
	s.Serves = []impl.Serve{{Client: 0, Try: 1, Edition: 4, Since: 0}, {Client: 2, Try: 1, Edition: 1, Since: 1}}
	s.Buckets[0] = impl.Bucket{Most: 40, Rate: 8, At: 7}
	next, words = checkServerTick(t, s)
	if len(words) != 1 || words[0] != (impl.Word{Kind: impl.WordGone, Client: 0, Try: 1, Edition: 4}) || next.Buckets[0].Level != 8 || len(next.Serves) != 1 {
		t.Errorf("ServerTick tells %#v", words)
	}
}

// Of those that are worth the same the first client is told, of whichever house.
func TestP47TheFirstOfEqualOnes(t *testing.T) {
	s := busyServer()
	for _, clients := range [][]int{{0, 1, 2, 3}, {1, 2, 3}, {2, 3}, {0, 3}, {1, 2}, {3}} {
		s.Serves = nil
		for _, client := range clients {
			s.Serves = append(s.Serves, impl.Serve{Client: client, Try: 1, Edition: 1 + client%2*2, Since: 7})
		}
		if _, words := checkServerTick(t, s); len(words) != 1 || words[0].Client != clients[0] {
			t.Errorf("of %v ServerTick tells %#v", clients, words)
		}
	}
	// A window that is known is worth as much as a tick of waiting.
	s.Serves = []impl.Serve{{Client: 0, Try: 1, Edition: 1, Windows: 1, Since: 6}, {Client: 1, Try: 1, Edition: 3, Since: 7}}
	if _, words := checkServerTick(t, s); words[0].Client != 0 {
		t.Errorf("ServerTick tells %#v", words)
	}
	s.Serves[0].Windows = 2
	if _, words := checkServerTick(t, s); words[0].Client != 1 {
		t.Errorf("ServerTick tells %#v", words)
	}
}

// Behind IdMax the numbers begin anew; at TimeMax nothing is told any more.
func TestP47IdMaxAndTimeMax(t *testing.T) {
	s := busyServer()
	s.Serves = []impl.Serve{{Client: 0, Try: 1, Edition: 1, Next: 9998, Since: 7}}
	for _, want := range []int{9998, 9999, 0, 1, 2, 3} {
		next, words := checkServerTick(t, s)
		if len(words) != 1 || words[0].Num != want || next.Serves[0].Since != next.Now {
			t.Fatalf("ServerTick tells %#v, not the symbol %d", words, want)
		}
		s = next
	}
	s.Now = 99998
	next, words := checkServerTick(t, s)
	if len(words) != 1 || next.Now != 99999 || next.Serves[0].Since != 99999 {
		t.Errorf("ServerTick at the last but one tick is %#v %#v", next, words)
	}
	last, words := checkServerTick(t, next)
	if len(words) != 0 || !sameServer(last, next) {
		t.Errorf("ServerTick at TimeMax is %#v %#v", last, words)
	}
}

// The blocks of a symbol come into the pool, those of the house alone being driven out behind PoolHouse.
func TestP47ThePool(t *testing.T) {
	s := busyServer()
	s.Serves = []impl.Serve{{Client: 0, Try: 1, Edition: 2, Since: 7}}
	for id := range 60 {
		s.Buckets[0].Level = 40
		next, words := checkServerTick(t, s)
		if len(words) != 1 || words[0].Num != id || impl.PoolOf(next.Pool, 0) > 5 || impl.PoolOf(next.Pool, 1) != 1 {
			t.Fatalf("ServerTick is %#v %#v", next.Pool, words)
		}
		row := impl.PlanRow(impl.PlanFor(300), id)
		if last := row[len(row)-1]; !slices.ContainsFunc(next.Pool.Frames, func(f impl.Frame) bool { return f.Edition == 2 && f.Block == last && f.Used }) {
			t.Fatalf("the block %d is not in the pool: %#v", last, next.Pool)
		}
		s = next
	}
}

// toldWithin is which clients are told something within so many ticks.
func toldWithin(t *testing.T, s impl.Server, ticks int) map[int]int {
	t.Helper()
	told := map[int]int{}
	for range ticks {
		next, words := impl.ServerTick(s)
		for _, w := range words {
			told[w.Client]++
		}
		s = next
	}
	return told
}

func TestP48EachIsToldSomething(t *testing.T) {
	r := newSource(124)
	served := 0
	for range 500 {
		s := someServer(r)
		s.Now = min(s.Now, 99999-40)
		if !serverHasForm(s) {
			continue
		}
		served += len(s.Serves)
		told := toldWithin(t, s, 40)
		for _, serve := range s.Serves {
			if told[serve.Client] == 0 {
				t.Fatalf("of %#v the client %d is told nothing", s, serve.Client)
			}
		}
	}
	if served < 100 {
		t.Errorf("only %d were to be told something", served)
	}
}

// All clients want the longest things, with empty buckets, and some wait for longer than others.
func TestP48AtTheWorst(t *testing.T) {
	records := []string{"0 a:" + strings.Repeat("x", 300), "1 a:" + strings.Repeat("y", 300)}
	said, _ := catSaid(records)
	r := newSource(125)
	for range 150 {
		s := impl.ServerNew()
		s.Now, s.Log, s.Cat = 99999-40, logOf(records), said
		for house := range s.Buckets {
			s.Buckets[house] = impl.Bucket{Level: r.Intn(2) * r.Intn(41), Most: 40, Rate: 8, At: s.Now}
		}
		for client := range 4 {
			s.Serves = append(s.Serves, impl.Serve{Client: client, Try: 1, Edition: 1 + client%2, Next: r.Intn(10000), Windows: r.Intn(4), Since: []int{s.Now, s.Now, 0, s.Now - r.Intn(9)}[r.Intn(4)]})
		}
		if told := toldWithin(t, s, 40); len(told) != 4 {
			t.Fatalf("of %#v only %v are told something", s.Serves, told)
		}
	}
}

// All asks of a client that is told something, by try and by edition.
func TestP49WhoAsks(t *testing.T) {
	s := busyServer()
	s.Serves[1].Try = 5
	gone := func(try int, edition int) []impl.Word {
		return []impl.Word{{Kind: impl.WordGone, Client: 1, Try: try, Edition: edition}}
	}
	accept := func(try int) []impl.Word {
		return []impl.Word{{Kind: impl.WordAccept, Client: 1, Try: try, Edition: 3, Data: "16/8:1,2:2,3"}}
	}
	stays, anew := s.Serves[1], impl.Serve{Client: 1, Try: 6, Edition: 3, Since: 7}
	cases := []struct {
		try, edition int
		name         string
		words        []impl.Word
		serve        impl.Serve // nothing: it goes
	}{
		{4, 0, "a", nil, stays}, {4, 3, "a", nil, stays}, {4, 2, "a", nil, stays}, {4, 0, "c", nil, stays}, {1, 99999, "zzzzzz", nil, stays},
		{5, 0, "a", accept(5), stays}, {5, 3, "a", accept(5), stays}, {5, 2, "a", gone(5, 2), stays}, {5, 4, "a", gone(5, 4), stays}, {5, 0, "c", gone(5, 0), stays}, {5, 3, "b", gone(5, 3), stays},
		{6, 0, "a", accept(6), anew}, {6, 3, "a", accept(6), anew}, {6, 2, "a", gone(6, 2), impl.Serve{}}, {6, 4, "a", gone(6, 4), impl.Serve{}}, {6, 99999, "a", gone(6, 99999), impl.Serve{}}, {6, 0, "c", gone(6, 0), impl.Serve{}}, {6, 1, "b", gone(6, 1), impl.Serve{}}, {99999, 0, "b", gone(99999, 0), impl.Serve{}},
	}
	for _, c := range cases {
		got, words := checkServerHear(t, s, impl.Word{Kind: impl.WordOpen, Client: 1, Try: c.try, Edition: c.edition, Name: c.name})
		want := []impl.Serve{s.Serves[0], c.serve, s.Serves[2]}
		if c.serve == (impl.Serve{}) {
			want = []impl.Serve{s.Serves[0], s.Serves[2]}
		}
		if !slices.Equal(words, c.words) || !slices.Equal(got.Serves, want) {
			t.Errorf("asked for %q in the try %d, edition %d: %#v, and %#v", c.name, c.try, c.edition, words, got.Serves)
		}
	}
}

// Clients that are told nothing yet: of each house, in order, and such as there are none of.
func TestP49WhoAsksAtFirst(t *testing.T) {
	s := busyServer()
	s.Serves = nil
	for _, client := range []int{2, 0, 3, 1} {
		next, words := checkServerHear(t, s, impl.Word{Kind: impl.WordOpen, Client: client, Try: 99999, Name: "a"})
		if len(words) != 1 || words[0].Kind != impl.WordAccept || words[0].Edition != 1+client%2*2 || words[0].Try != 99999 {
			t.Errorf("client %d is answered by %#v", client, words)
		}
		s = next
	}
	if len(s.Serves) != 4 || !impl.ServerOk(s) {
		t.Errorf("all clients: %#v", s.Serves)
	}
	for _, client := range []int{4, 5, 99999, -1, tooBig, tooSmall} {
		if got, words := checkServerHear(t, s, impl.Word{Kind: impl.WordOpen, Client: client, Try: 1, Name: "a"}); len(words) != 0 || !sameServer(got, s) {
			t.Errorf("client %d is answered by %#v", client, words)
		}
	}
	// What only the other house gives out is not there.
	if _, words := checkServerHear(t, s, impl.Word{Kind: impl.WordOpen, Client: 3, Try: 99999, Name: "b"}); len(words) != 1 || words[0].Kind != impl.WordGone {
		t.Errorf("what another house gives out is answered by %#v", words)
	}
	if _, words := checkServerHear(t, s, impl.Word{Kind: impl.WordOpen, Client: 2, Try: 99999, Name: "b"}); len(words) != 1 || words[0].Kind != impl.WordAccept || words[0].Data != "300/13:6,24:2,3" {
		t.Errorf("what its house gives out is answered by %#v", words)
	}
}

// An ask that comes late, behind a client that was done, begins anew until it is refused.
func TestP49AnAskThatComesLate(t *testing.T) {
	s := busyServer()
	s.Serves = nil
	ask := impl.Word{Kind: impl.WordOpen, Client: 0, Try: 1, Name: "a"}
	s, _ = checkServerHear(t, s, ask)
	s, _ = checkServerHear(t, s, impl.Word{Kind: impl.WordDone, Client: 0, Try: 1, Edition: 1})
	if len(s.Serves) != 0 {
		t.Fatalf("told: %#v", s.Serves)
	}
	s, words := checkServerHear(t, s, ask)
	if len(words) != 1 || words[0].Kind != impl.WordAccept || len(s.Serves) != 1 || s.Serves[0].Next != 0 {
		t.Errorf("an ask that comes late is answered by %#v", words)
	}
	s, _ = checkServerHear(t, s, impl.Word{Kind: impl.WordDone, Client: 0, Try: 1, Edition: 1})
	if len(s.Serves) != 0 {
		t.Errorf("told: %#v", s.Serves)
	}
}

// How many windows are known: more, not less, up to WindowMax, of the same try and edition.
func TestP50WordKnownAndWordDone(t *testing.T) {
	s := busyServer()
	for _, c := range []struct{ try, edition, num, windows int }{
		{2, 1, 0, 1}, {2, 1, 1, 1}, {2, 1, 2, 2}, {2, 1, 3, 3}, {2, 1, 4, 1}, {2, 1, 5, 1}, {2, 1, 99999, 1}, {1, 1, 3, 1}, {3, 1, 3, 1}, {2, 2, 3, 1}, {2, 4, 3, 1}, {99999, 99999, 3, 1}, {2, 0, 3, 1}, {0, 1, 3, 1}, {2, 1, -1, 1}, {2, 1, 100000, 1}, {2, 1, tooBig, 1},
	} {
		got, words := checkServerHear(t, s, impl.Word{Kind: impl.WordKnown, Client: 0, Try: c.try, Edition: c.edition, Num: c.num})
		want := slices.Clone(s.Serves)
		want[0].Windows = c.windows
		if len(words) != 0 || !slices.Equal(got.Serves, want) {
			t.Errorf("WordKnown %#v: %#v, and %#v", c, words, got.Serves)
		}
	}
	for _, c := range []struct {
		client, try, edition, num int
		goes                      bool
	}{
		{0, 2, 1, 0, true}, {0, 2, 1, 99999, true}, {0, 1, 1, 0, false}, {0, 3, 1, 0, false}, {0, 2, 2, 0, false}, {0, 2, 0, 0, false}, {2, 2, 1, 0, false}, {1, 1, 3, 2, true}, {3, 99999, 4, 0, true}, {3, 99998, 4, 0, false}, {4, 2, 1, 0, false}, {tooSmall, 2, 1, 0, false}, {0, 2, 1, 100000, false},
	} {
		got, words := checkServerHear(t, s, impl.Word{Kind: impl.WordDone, Client: c.client, Try: c.try, Edition: c.edition, Num: c.num})
		if len(words) != 0 || (len(got.Serves) == 2) != c.goes || slices.ContainsFunc(got.Serves, func(serve impl.Serve) bool { return c.goes && serve.Client == c.client }) {
			t.Errorf("WordDone %#v: %#v, and %#v", c, words, got.Serves)
		}
	}
}

func TestP49AndP50WhatAServerHears(t *testing.T) {
	r := newSource(126)
	kinds := map[int]int{}
	for range 1500 {
		s := someServer(r)
		w := someServeWord(r, s)
		if r.Intn(10) == 0 {
			w = someWord(r)
		}
		next, words := checkServerHear(t, s, w)
		if len(words) > 1 || len(words) == 1 && w.Kind != impl.WordOpen || !impl.ServerOk(next) {
			t.Fatalf("ServerHear of %#v tells %#v", w, words)
		}
		for _, answer := range words {
			kinds[answer.Kind]++
			item, given := impl.CatGet(s.Cat, w.Client%2, w.Name)
			accepts := answer.Kind == impl.WordAccept && given && answer.Edition == item.Edition
			refuses := answer.Kind == impl.WordGone && (!given || w.Edition > 0 && w.Edition != item.Edition)
			if !impl.WordOk(answer) || answer.Client != w.Client || answer.Try != w.Try || !accepts && !refuses {
				t.Fatalf("%#v is answered by %#v", w, answer)
			}
		}
		// All but Serves of the word's client is as it was.
		isOther := func(serve impl.Serve) bool { return serve.Client == w.Client }
		rest, was := copyServer(next), copyServer(s)
		rest.Serves, was.Serves = slices.DeleteFunc(rest.Serves, isOther), slices.DeleteFunc(was.Serves, isOther)
		if !sameServer(rest, was) {
			t.Fatalf("ServerHear of %#v changes %#v to %#v", w, s, next)
		}
	}
	if kinds[impl.WordAccept] < 100 || kinds[impl.WordGone] < 100 {
		t.Errorf("answered: %v", kinds)
	}
}

// Words that are not ok, and such as only clients hear, change nothing.
func TestP50WordsThatAreNone(t *testing.T) {
	s := busyServer()
	words := []impl.Word{
		{}, {Kind: impl.WordOpen, Client: 0, Try: 3}, {Kind: impl.WordOpen, Client: 0, Try: 3, Name: "toolong"}, {Kind: impl.WordOpen, Client: 0, Name: "a"}, {Kind: impl.WordOpen, Client: 0, Try: -1, Name: "a"}, {Kind: impl.WordOpen, Client: 0, Try: 100000, Name: "a"}, {Kind: impl.WordOpen, Client: 0, Try: 3, Edition: -1, Name: "a"}, {Kind: impl.WordOpen, Client: 0, Try: 3, Edition: 100000, Name: "a"}, {Kind: impl.WordOpen, Client: 0, Try: 3, Num: 1, Name: "a"}, {Kind: impl.WordOpen, Client: 0, Try: 3, Name: "a", Data: "x"},
		{Kind: impl.WordDone, Client: 0, Try: 2, Edition: 1, Data: "x"}, {Kind: impl.WordDone, Client: 0, Try: 2, Edition: 1, Name: "a"}, {Kind: impl.WordKnown, Client: 0, Try: 2, Edition: 1, Num: 2, Name: "a"},
		{Kind: impl.WordAccept, Client: 0, Try: 2, Edition: 1, Data: "20/8:1,3:2,3"}, {Kind: impl.WordSymbol, Client: 0, Try: 2, Edition: 1, Data: "theredfo"}, {Kind: impl.WordGone, Client: 0, Try: 2, Edition: 1}, {Kind: impl.WordGone, Client: 0, Try: 3},
	}
	for _, kind := range []int{-1, 0, 7, 8, tooBig, tooSmall} {
		words = append(words, impl.Word{Kind: kind, Client: 0, Try: 2, Edition: 1}, impl.Word{Kind: kind, Client: 0, Try: 3, Name: "a"})
	}
	for _, w := range words {
		if got, answer := checkServerHear(t, s, w); len(answer) != 0 || !sameServer(got, s) {
			t.Errorf("%#v is answered by %#v: %#v", w, answer, got)
		}
	}
}

// A record comes whole, torn at each byte, or not at all, and the server rises with what its log says.
func TestP51AServerThatFell(t *testing.T) {
	s := busyServer()
	for _, record := range []string{"0 c:more", "1 c:", "1 a:", "0 b:", "1 c:a\nb\n", "1 zzzzzz:" + strings.Repeat("x", 300)} {
		said, can := recordDone(s.Cat, record)
		if can != (record != "1 c:") {
			t.Fatalf("there can be %q: %#v", record, can)
		}
		line := lineOf(5, record)
		for bytes := -1; bytes <= len(line)+1; bytes++ {
			down := checkServerFall(t, s, record, bytes)
			came := min(max(bytes, 0), len(line))
			if !can {
				came = 0
			}
			if down.Up || !impl.ServerOk(down) || down.Now != 7 || down.Log != s.Log+line[:came] {
				t.Fatalf("ServerFall of %q and %d is %#v", record, bytes, down)
			}
			up := checkServerRise(t, down)
			wantCat, wantLog := s.Cat, s.Log
			if came == len(line) {
				wantCat, wantLog = said, s.Log+line
			}
			if !up.Up || !impl.ServerOk(up) || !sameCat(up.Cat, wantCat) || up.Log != wantLog || up.Now != 7 || len(up.Serves) != 0 || !samePool(up.Pool, emptyPool()) {
				t.Fatalf("behind %d bytes of %q ServerRise is %#v", bytes, record, up)
			}
			for _, bucket := range up.Buckets {
				if bucket != (impl.Bucket{Level: 40, Most: 40, Rate: 8, At: 7}) {
					t.Fatalf("a bucket is %#v", bucket)
				}
			}
		}
		for _, bytes := range []int{tooBig, tooSmall} {
			checkServerRise(t, checkServerFall(t, s, record, bytes))
		}
	}
}

// Records that have a code, or are none, do not come into the log.
func TestP51RecordsThatAreNotWritten(t *testing.T) {
	s := busyServer()
	records := append(badRecords(), "0 a:x", "1 a:x", "0 c:", "1 b:", "0 c:"+strings.Repeat("x", 181), "0 c:"+strings.Repeat("x", 301), strings.Repeat("x", 500), strings.Repeat("x", 501), lineOf(5, "0 c:more"))
	for _, record := range records {
		for _, bytes := range []int{0, 3, 9, 1000, tooBig} {
			if down := checkServerFall(t, s, record, bytes); down.Log != s.Log || down.Up {
				t.Errorf("ServerFall of %q and %d leaves %q", record, bytes, down.Log)
			}
		}
	}
}

// One that is down and falls again, and one that is up and rises, stay.
func TestP51FallsAndRisesAgain(t *testing.T) {
	s := busyServer()
	for _, bytes := range []int{0, 1, 12, 99} {
		down := checkServerFall(t, s, "0 c:more", bytes)
		again := checkServerFall(t, down, "0 d:more", 99)
		if !sameServer(again, down) || !sameServer(checkServerFall(t, again, "", 0), down) {
			t.Errorf("a fall of one that is down is %#v", again)
		}
		up := checkServerRise(t, again)
		if !sameServer(checkServerRise(t, up), up) {
			t.Errorf("one that is up does not stay: %#v", up)
		}
		// What was torn is gone, and the next record comes where it stood.
		next, code := checkServerPut(t, up, 0, "e", "x")
		if code != impl.CatDone || !impl.ServerOk(next) || next.Cat.Last != up.Cat.Last+1 {
			t.Errorf("behind a rise ServerPut is %d", code)
		}
	}
	if got := checkServerRise(t, s); !sameServer(got, s) {
		t.Errorf("ServerRise of one that is up is %#v", got)
	}
	for _, now := range []int{0, 99998, 99999} {
		up := checkServerRise(t, impl.Server{Now: now})
		if !up.Up || up.Now != now || up.Buckets[0].At != now || up.Buckets[1].At != now {
			t.Errorf("ServerRise at %d is %#v", now, up)
		}
	}
}

func TestP51ManyFalls(t *testing.T) {
	r := newSource(127)
	for range 500 {
		s := someServer(r)
		record := []string{"0 abc:more", "1 abc:more", "0 a:", "1 b:", "0 b:x", "1 a:y"}[r.Intn(6)]
		down := checkServerFall(t, s, record, r.Intn(60)-5)
		up := checkServerRise(t, down)
		before, _ := impl.LogRead(s.Log)
		after, _ := impl.LogRead(up.Log)
		if !impl.ServerOk(down) || !impl.ServerOk(up) || len(after) > len(before)+1 || !slices.Equal(after[:len(before)], before) {
			t.Fatalf("of %#v, that fell with %q, there is %#v", s, record, up)
		}
	}
}

func TestP52OneThatIsDownDoesNothing(t *testing.T) {
	busy := busyServer()
	for _, down := range []impl.Server{{}, {Now: 99999}, {Now: 5, Log: busy.Log}, {Now: 7, Log: busy.Log + lineOf(5, "0 c:more")[:20]}, {Log: "torn"}} {
		if !impl.ServerOk(down) {
			t.Fatalf("%#v is ok", down)
		}
		put, putCode := checkServerPut(t, down, 0, "new", "x")
		taken, takeCode := checkServerTake(t, down, 0, "a")
		none, noneCode := checkServerTake(t, down, 0, "none")
		ticked, told := checkServerTick(t, down)
		if putCode != impl.CatBad || takeCode != impl.CatBad || noneCode != impl.CatBad || len(told) != 0 || !sameServer(put, down) || !sameServer(taken, down) || !sameServer(none, down) || !sameServer(ticked, down) {
			t.Errorf("%#v does something: %d %d %d %#v", down, putCode, takeCode, noneCode, told)
		}
		for client := range 5 {
			for _, w := range []impl.Word{{Kind: impl.WordOpen, Client: client, Try: 1, Name: "a"}, {Kind: impl.WordDone, Client: client, Try: 1, Edition: 1}, {Kind: impl.WordKnown, Client: client, Try: 1, Edition: 1, Num: 1}, {}} {
				if heard, words := checkServerHear(t, down, w); len(words) != 0 || !sameServer(heard, down) {
					t.Errorf("%#v hears %#v", down, w)
				}
			}
		}
	}
}

func TestP45ToP52ManySteps(t *testing.T) {
	r := newSource(128)
	for range 60 {
		s := impl.ServerNew()
		for range 80 {
			checkServerOk(t, s)
			switch r.Intn(9) {
			case 0, 1:
				s, _ = checkServerPut(t, s, r.Intn(2), someName(r), serveTexts()[r.Intn(10)])
			case 2:
				s, _ = checkServerTake(t, s, r.Intn(2), someName(r))
			case 3, 4, 5:
				s, _ = checkServerHear(t, s, someServeWord(r, s))
			case 6:
				if r.Intn(3) == 0 {
					s = checkServerFall(t, s, []string{"0 abc:more", "0 a:", "1 b:x"}[r.Intn(3)], r.Intn(50))
				}
				if r.Intn(2) == 0 {
					s = checkServerRise(t, s)
				}
			default:
				s, _ = checkServerTick(t, s)
			}
			if !s.Up && r.Intn(2) == 0 {
				s = checkServerRise(t, s)
			}
		}
	}
}
