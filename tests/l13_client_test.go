package tests

import (
	"math/rand"
	"slices"
	"strings"
	"testing"

	"loop.example/wellhead/impl"
)

// sameClient compares clients; the empty and the nil list are the same.
func sameClient(a impl.Client, b impl.Client) bool {
	return a.Id == b.Id && a.Try == b.Try && a.Stands == b.Stands && a.Name == b.Name && a.Edition == b.Edition && sameGetting(a.Get, b.Get)
}

// copyClient is a client in memory of its own.
func copyClient(c impl.Client) impl.Client {
	c.Get = copyGetting(c.Get)
	return c
}

// clientHasForm says whether a client is as chapter 13 has it.
func clientHasForm(c impl.Client) bool {
	if !within(c.Id, 0, 3) || !within(c.Try, 0, 99999) || !within(c.Edition, 0, 99999) || !within(c.Stands, 0, 4) {
		return false
	}
	if c.Edition == 0 && !sameGetting(c.Get, impl.Getting{}) || c.Edition != 0 && !impl.GetOk(c.Get) {
		return false
	}
	if c.Stands == 0 {
		return c.Name == "" && c.Edition == 0
	}
	done := c.Edition != 0 && impl.SolverRank(c.Get.Solver) == c.Get.Solver.Count
	return c.Try != 0 && isName(c.Name) && done == (c.Stands == 3) && (c.Edition != 0 || c.Stands == 1 || c.Stands == 4)
}

// asking is the word by which a client asks.
func asking(c impl.Client) []impl.Word {
	return []impl.Word{{Kind: impl.WordOpen, Client: c.Id, Try: c.Try, Edition: c.Edition, Name: c.Name}}
}

// refusing is the word by which a symbol is refused.
func refusing(w impl.Word) []impl.Word {
	return []impl.Word{{Kind: impl.WordDone, Client: w.Client, Try: w.Try, Edition: w.Edition}}
}

// wantOpen is what ClientOpen has to answer.
func wantOpen(c impl.Client, name string) (impl.Client, []impl.Word) {
	if !clientHasForm(c) {
		return impl.Client{}, nil
	}
	if !isName(name) || c.Try == 99999 {
		return c, nil
	}
	next := impl.Client{Id: c.Id, Try: c.Try + 1, Stands: 1, Name: name}
	return next, asking(next)
}

// wantAgain is what ClientAgain has to answer.
func wantAgain(c impl.Client) (impl.Client, []impl.Word) {
	if !clientHasForm(c) {
		return impl.Client{}, nil
	}
	if c.Edition == 0 || c.Stands == 3 || c.Try == 99999 {
		return c, nil
	}
	c.Try++
	c.Stands = 1
	return c, asking(c)
}

// wantStop is what ClientStop has to answer.
func wantStop(c impl.Client) (impl.Client, []impl.Word) {
	if !clientHasForm(c) {
		return impl.Client{}, nil
	}
	var words []impl.Word
	if c.Edition != 0 {
		words = []impl.Word{{Kind: impl.WordDone, Client: c.Id, Try: c.Try, Edition: c.Edition}}
	}
	return impl.Client{Id: c.Id, Try: c.Try}, words
}

// wantClientHear is what ClientHear has to answer.
func wantClientHear(c impl.Client, w impl.Word) (impl.Client, []impl.Word) {
	if !clientHasForm(c) {
		return impl.Client{}, nil
	}
	if !wordHasForm(w) || w.Client != c.Id || w.Try > c.Try {
		return c, nil
	}
	if w.Kind == impl.WordSymbol && (w.Try < c.Try || c.Stands == 0 || c.Stands > 2 || c.Stands == 2 && w.Edition != c.Edition) {
		return c, refusing(w)
	}
	if w.Try < c.Try {
		return c, nil
	}
	waits := c.Stands == 1 || c.Stands == 2
	switch {
	case w.Kind == impl.WordGone && waits && w.Edition == c.Edition:
		c.Stands = 4
	case w.Kind == impl.WordAccept && c.Stands == 1:
		return wantAccept(c, w), nil
	case w.Kind == impl.WordSymbol && c.Stands == 2:
		return wantLearn(c, w)
	}
	return c, nil
}

// wantAccept is an asking client behind WordAccept.
func wantAccept(c impl.Client, w impl.Word) impl.Client {
	p, ok := wantPlanRead(w.Data)
	switch {
	case !ok:
	case c.Edition == 0:
		c.Edition, c.Stands, c.Get = w.Edition, 2, impl.Getting{Plan: p, Solver: impl.Solver{Count: blocksFor(p.Long, p.Size), Size: p.Size}}
	case c.Edition == w.Edition && samePlan(p, c.Get.Plan):
		c.Stands = 2
	}
	return c
}

// wantLearn is a client that gets a thing behind a symbol of its edition.
func wantLearn(c impl.Client, w impl.Word) (impl.Client, []impl.Word) {
	had := impl.GetWindows(c.Get)
	get, code := impl.GetAdd(c.Get, w.Num, w.Data)
	if code != 0 {
		return c, nil
	}
	c.Get = get
	if impl.SolverRank(get.Solver) == get.Solver.Count {
		c.Stands = 3
		return c, refusing(w)
	}
	if has := impl.GetWindows(get); has != had {
		return c, []impl.Word{{Kind: impl.WordKnown, Client: c.Id, Try: c.Try, Edition: c.Edition, Num: has}}
	}
	return c, nil
}

// checkClient holds all that a client does, but for hearing, against the model.
func checkClient(t *testing.T, c impl.Client) {
	t.Helper()
	if got := impl.ClientOk(c); got != clientHasForm(c) {
		t.Fatalf("ClientOk of %#v is %#v", c, got)
	}
	for _, name := range []string{"a", "zzzzzz", "", "toolong", "A", "a ", "\x00"} {
		want, wantWords := wantOpen(c, name)
		if got, words := impl.ClientOpen(c, name); !sameClient(got, want) || !slices.Equal(words, wantWords) {
			t.Fatalf("ClientOpen of %#v and %q is %#v %#v", c, name, got, words)
		}
	}
	want, wantWords := wantAgain(c)
	if got, words := impl.ClientAgain(c); !sameClient(got, want) || !slices.Equal(words, wantWords) {
		t.Fatalf("ClientAgain of %#v is %#v %#v", c, got, words)
	}
	want, wantWords = wantStop(c)
	if got, words := impl.ClientStop(c); !sameClient(got, want) || !slices.Equal(words, wantWords) {
		t.Fatalf("ClientStop of %#v is %#v %#v", c, got, words)
	}
	wantWords, wantText := nil, ""
	if clientHasForm(c) && (c.Stands == 1 || c.Stands == 2) {
		wantWords = asking(c)
	}
	if clientHasForm(c) && c.Edition != 0 {
		wantText = impl.GetText(c.Get)
	}
	if got := impl.ClientTick(c); !slices.Equal(got, wantWords) {
		t.Fatalf("ClientTick of %#v is %#v", c, got)
	}
	if got := impl.ClientText(c); got != wantText {
		t.Fatalf("ClientText of %#v is %q", c, got)
	}
}

// checkClientHear holds ClientHear against the model, and tells what it answers.
func checkClientHear(t *testing.T, c impl.Client, w impl.Word) (impl.Client, []impl.Word) {
	t.Helper()
	want, wantWords := wantClientHear(c, w)
	got, words := impl.ClientHear(c, w)
	if !sameClient(got, want) || !slices.Equal(words, wantWords) {
		t.Fatalf("ClientHear of %#v and %#v is %#v %#v, not %#v %#v", c, w, got, words, want, wantWords)
	}
	return got, words
}

// foxText is the thing that clients are told here: three blocks, of which the first is a window.
const foxText = "theredfoxjumpsoverit"

// knowing is a client that stands so, and knows some symbols of foxText as the edition 5; of none it has no edition.
func knowing(t *testing.T, stands int, ids ...int) impl.Client {
	t.Helper()
	c := impl.Client{Id: 2, Try: 3, Stands: stands, Name: "a"}
	if len(ids) == 0 {
		return c
	}
	c.Edition, c.Get = 5, impl.GetNew(impl.PlanFor(20))
	for _, id := range ids {
		if id >= 0 { // an edition of which nothing is known has the symbol -1
			c.Get = mustGet(t, c.Get, foxText, id)
		}
	}
	return c
}

// edgeClients are ok, one for each way in which a client may stand, and at each limit.
func edgeClients(t *testing.T) []impl.Client {
	t.Helper()
	clients := []impl.Client{
		{}, {Id: 3}, {Id: 3, Try: 99999}, {Try: 1}, knowing(t, 1), knowing(t, 1, -1), knowing(t, 1, 0), knowing(t, 1, 2, 1), knowing(t, 2, -1), knowing(t, 2, 0), knowing(t, 2, 2), knowing(t, 2, 0, 1), knowing(t, 2, 0, 2), knowing(t, 3, 0, 1, 2), knowing(t, 4), knowing(t, 4, -1), knowing(t, 4, 0, 1),
	}
	for _, change := range []func(c *impl.Client){
		func(c *impl.Client) { c.Id = 0 }, func(c *impl.Client) { c.Id = 3 }, func(c *impl.Client) { c.Try = 1 }, func(c *impl.Client) { c.Try = 99998 }, func(c *impl.Client) { c.Try = 99999 }, func(c *impl.Client) { c.Edition = 1 }, func(c *impl.Client) { c.Edition = 99999 }, func(c *impl.Client) { c.Name = "zzzzzz" },
	} {
		for _, c := range []impl.Client{knowing(t, 1, 0), knowing(t, 2, 0), knowing(t, 3, 0, 1, 2), knowing(t, 4, 0)} {
			change(&c)
			clients = append(clients, c)
		}
	}
	for _, p := range edgePlans() {
		clients = append(clients, impl.Client{Id: 1, Try: 9, Stands: 2, Name: "b", Edition: 1, Get: impl.GetNew(p)})
	}
	return clients
}

// badClients are not ok, each by one thing alone.
func badClients(t *testing.T) []impl.Client {
	t.Helper()
	good := []impl.Client{knowing(t, 1), knowing(t, 1, 0), knowing(t, 2, 0), knowing(t, 3, 0, 1, 2), knowing(t, 4), knowing(t, 4, 0)}
	var bad []impl.Client
	add := func(change func(c *impl.Client)) {
		for _, c := range good {
			change(&c)
			bad = append(bad, c)
		}
	}
	for _, number := range outside(3) {
		add(func(c *impl.Client) { c.Id = number })
		bad = append(bad, impl.Client{Id: number}, impl.Client{Id: number, Try: 1})
	}
	for _, number := range outside(99999) {
		add(func(c *impl.Client) { c.Try = number })
		add(func(c *impl.Client) { c.Edition = number })
		bad = append(bad, impl.Client{Try: number}, impl.Client{Edition: number})
	}
	for _, number := range outside(4) {
		add(func(c *impl.Client) { c.Stands = number })
		bad = append(bad, impl.Client{Stands: number})
	}
	add(func(c *impl.Client) { c.Stands = 0 })
	add(func(c *impl.Client) { c.Try = 0 })
	for _, name := range []string{"", "toolong", "A", "a1", " a", "a\x00"} {
		add(func(c *impl.Client) { c.Name = name })
	}
	// As Edition, Name or Getting does not allow.
	return append(bad,
		impl.Client{Name: "a"}, impl.Client{Edition: 1}, impl.Client{Get: impl.GetNew(impl.PlanFor(20))}, impl.Client{Edition: 1, Get: impl.GetNew(impl.PlanFor(20))}, impl.Client{Try: 1, Name: "a"},
		knowing(t, 2), knowing(t, 3), knowing(t, 1, 0, 1, 2), knowing(t, 2, 0, 1, 2), knowing(t, 4, 0, 1, 2), knowing(t, 3, -1), knowing(t, 3, 0, 1), knowing(t, 3, 1, 2), knowing(t, 0, 0), knowing(t, 0),
	)
}

// badKnowing are clients that are not ok by what they know alone.
func badKnowing(t *testing.T) []impl.Client {
	t.Helper()
	var bad []impl.Client
	for _, get := range badGettings(t) {
		for stands := 1; stands <= 4; stands++ {
			bad = append(bad, impl.Client{Try: 1, Stands: stands, Name: "a", Edition: 1, Get: get})
		}
	}
	nothing := impl.Client{Try: 1, Stands: 1, Name: "a"}
	for _, change := range []func(g *impl.Getting){
		func(g *impl.Getting) { g.Plan.Long = 1 }, func(g *impl.Getting) { g.Plan.Size = -1 }, func(g *impl.Getting) { g.Plan.Windows = []int{0} }, func(g *impl.Getting) { g.Plan.Weights = []int{0} }, func(g *impl.Getting) { g.Solver.Count = 1 }, func(g *impl.Getting) { g.Solver.Size = -1 }, func(g *impl.Getting) { g.Solver.Eqs = []impl.Eq{{}} },
		func(g *impl.Getting) { *g = impl.GetNew(impl.PlanFor(1)) },
	} {
		for _, c := range []impl.Client{nothing, {}, {Id: 1, Try: 2, Stands: 4, Name: "b"}} {
			change(&c.Get)
			bad = append(bad, c)
		}
	}
	return bad
}

// foxWords are words to the client of knowing, of its tries and its editions, and of others.
func foxWords(t *testing.T) []impl.Word {
	t.Helper()
	words := edgeWords()
	for _, client := range []int{1, 2, 3} {
		for _, try := range []int{0, 1, 2, 3, 4, 99999} {
			for _, edition := range []int{0, 4, 5, 6, 99999} {
				words = append(words, impl.Word{Kind: impl.WordGone, Client: client, Try: try, Edition: edition}, impl.Word{Kind: impl.WordOpen, Client: client, Try: try, Edition: edition, Name: "a"}, impl.Word{Kind: impl.WordKnown, Client: client, Try: try, Edition: edition, Num: 1}, impl.Word{Kind: impl.WordDone, Client: client, Try: try, Edition: edition})
				for _, data := range []string{"20/8:1,3:2,3", "20/8:3:1", "16/8:1,2:2,3", "20/8:1,3:2,4", "020/8:1,3:2,3", "no plan", "", "20/8:1,3:2,3 "} {
					words = append(words, impl.Word{Kind: impl.WordAccept, Client: client, Try: try, Edition: edition, Data: data})
				}
				for _, id := range []int{0, 1, 2, 7, 9999} {
					words = append(words, impl.Word{Kind: impl.WordSymbol, Client: client, Try: try, Edition: edition, Num: id, Data: mustSymbol(t, impl.PlanFor(20), foxText, id)})
				}
				words = append(words, impl.Word{Kind: impl.WordSymbol, Client: client, Try: try, Edition: edition, Num: 10000, Data: "12345678"}, impl.Word{Kind: impl.WordSymbol, Client: client, Try: try, Edition: edition, Num: 1, Data: "short"}, impl.Word{Kind: impl.WordSymbol, Client: client, Try: try, Edition: edition, Num: 0, Data: "theredxx"}, impl.Word{Kind: impl.WordSymbol, Client: client, Try: try, Edition: edition, Num: 0})
			}
		}
	}
	return words
}

func TestClientNew(t *testing.T) {
	for id := range 4 {
		if got := impl.ClientNew(id); !sameClient(got, impl.Client{Id: id}) || !impl.ClientOk(got) {
			t.Errorf("ClientNew of %d is %#v", id, got)
		}
	}
	for _, id := range []int{-1, 4, 5, 9, 99999, tooBig, tooSmall} {
		if got := impl.ClientNew(id); !sameClient(got, impl.Client{}) {
			t.Errorf("ClientNew of %d is %#v", id, got)
		}
	}
}

func TestClientOk(t *testing.T) {
	for i, c := range edgeClients(t) {
		if !impl.ClientOk(c) || !clientHasForm(c) {
			t.Errorf("client %d is ok: %#v", i, c)
		}
		checkClient(t, c)
	}
	words := foxWords(t)
	for i, c := range append(badClients(t), badKnowing(t)...) {
		if impl.ClientOk(c) || clientHasForm(c) {
			t.Errorf("client %d is not ok: %#v", i, c)
		}
		checkClient(t, c)
		for at := i % 50; at < len(words); at += 50 {
			checkClientHear(t, c, words[at])
		}
	}
}

// someClient draws a client that is ok, and the text that it is told.
func someClient(t *testing.T, r *rand.Rand) (impl.Client, string) {
	t.Helper()
	c := impl.Client{Id: r.Intn(4), Try: []int{0, 1, 3, 99998, 99999}[r.Intn(5)]}
	p := somePlan(r)
	if r.Intn(2) == 0 {
		p = impl.PlanFor(1 + r.Intn(60))
	}
	text := someText(r, p.Long)
	if c.Try == 0 || r.Intn(8) == 0 {
		return c, text
	}
	c.Name, c.Stands = someName(r), []int{1, 4}[r.Intn(2)]
	if r.Intn(4) == 0 {
		return c, text
	}
	c.Edition, c.Get = []int{1, 5, 99999}[r.Intn(3)], someGetting(t, r, p, text)
	c.Stands = []int{1, 2, 2, 2, 4}[r.Intn(5)]
	if impl.GetDone(c.Get) {
		c.Stands = 3
	}
	return c, text
}

// someClientWord draws a word, most often of a client's try and edition.
func someClientWord(r *rand.Rand, c impl.Client, text string) impl.Word {
	w := impl.Word{Kind: []int{2, 3, 3, 3, 3, 6, 1 + r.Intn(6)}[r.Intn(7)], Client: c.Id, Try: c.Try, Edition: c.Edition}
	p := c.Get.Plan
	if c.Edition == 0 {
		p = impl.PlanFor(len(text))
	}
	if r.Intn(8) == 0 {
		w.Client = r.Intn(5)
	}
	if r.Intn(5) == 0 {
		w.Try += r.Intn(3) - 1
	}
	if r.Intn(5) == 0 {
		w.Edition += r.Intn(3) - 1
	}
	switch w.Kind {
	case impl.WordOpen:
		w.Name = someName(r)
	case impl.WordAccept:
		w.Data = []string{impl.PlanWrite(p), impl.PlanWrite(p), impl.PlanWrite(impl.PlanFor(1 + r.Intn(300))), "no plan"}[r.Intn(4)]
	case impl.WordSymbol:
		w.Num = someId(r, p)
		w.Data, _ = impl.PlanSymbol(p, text, w.Num)
		if r.Intn(10) == 0 {
			w.Data = someBlock(r, 1+r.Intn(16))
		}
	}
	return w
}

// All ways to stand hear all words.
func TestP55AllWordsToAllClients(t *testing.T) {
	words := foxWords(t)
	for _, c := range edgeClients(t) {
		for _, w := range words {
			next, answer := checkClientHear(t, c, w)
			if !impl.ClientOk(next) || len(answer) > 1 || len(answer) == 1 && !impl.WordOk(answer[0]) {
				t.Fatalf("behind %#v there is %#v, and %#v", w, next, answer)
			}
		}
	}
}

func TestP53WhoAsksAnew(t *testing.T) {
	r := newSource(130)
	for range 1000 {
		c, _ := someClient(t, r)
		checkClient(t, c)
		next, words := impl.ClientOpen(c, "name")
		if c.Try == 99999 {
			if !sameClient(next, c) || len(words) != 0 {
				t.Fatalf("behind all tries ClientOpen is %#v", next)
			}
			continue
		}
		want := impl.Word{Kind: impl.WordOpen, Client: c.Id, Try: c.Try + 1, Name: "name"}
		if next.Try != c.Try+1 || next.Edition != 0 || impl.ClientText(next) != "" || !impl.ClientOk(next) || len(words) != 1 || words[0] != want {
			t.Fatalf("ClientOpen of %#v is %#v %#v", c, next, words)
		}
		// What is no name leaves all as it is.
		for _, name := range []string{"", "Name", "sevenxx", "a b", strings.Repeat("a", 1000)} {
			if stays, words := impl.ClientOpen(c, name); !sameClient(stays, c) || len(words) != 0 {
				t.Fatalf("ClientOpen of %q is %#v", name, stays)
			}
		}
	}
}

func TestP53TheLastTry(t *testing.T) {
	c := impl.Client{Id: 1, Try: 99998}
	c, words := impl.ClientOpen(c, "a")
	if c.Try != 99999 || len(words) != 1 || !impl.WordOk(words[0]) {
		t.Errorf("ClientOpen is %#v", c)
	}
	if again, words := impl.ClientOpen(c, "b"); !sameClient(again, c) || len(words) != 0 {
		t.Errorf("ClientOpen behind CountMax is %#v", again)
	}
	get := knowing(t, 2, 0)
	get.Try = 99999
	if again, words := impl.ClientAgain(get); !sameClient(again, get) || len(words) != 0 {
		t.Errorf("ClientAgain behind CountMax is %#v", again)
	}
	get.Try = 99998
	if again, words := impl.ClientAgain(get); again.Try != 99999 || len(words) != 1 {
		t.Errorf("ClientAgain up to CountMax is %#v", again)
	}
}

func TestP54WhoAsksForTheRest(t *testing.T) {
	r := newSource(131)
	asked := 0
	for range 1000 {
		c, _ := someClient(t, r)
		next, words := impl.ClientAgain(c)
		if c.Edition == 0 || c.Stands == impl.ClientFull || c.Try == 99999 {
			if !sameClient(next, c) || len(words) != 0 {
				t.Fatalf("ClientAgain of %#v is %#v", c, next)
			}
			continue
		}
		asked++
		want := impl.Word{Kind: impl.WordOpen, Client: c.Id, Try: c.Try + 1, Edition: c.Edition, Name: c.Name}
		if next.Try != c.Try+1 || next.Edition != c.Edition || impl.ClientText(next) != impl.ClientText(c) || !sameGetting(next.Get, c.Get) || next.Stands != impl.ClientAsks || !impl.ClientOk(next) || len(words) != 1 || words[0] != want {
			t.Fatalf("ClientAgain of %#v is %#v %#v", c, next, words)
		}
	}
	if asked < 200 {
		t.Errorf("only %d asked for the rest", asked)
	}
}

// Who asks for the rest is accepted by the same edition and plan alone, and goes on where it was.
func TestP54TheRestOfTheSameEdition(t *testing.T) {
	c, words := impl.ClientAgain(knowing(t, 4, 0))
	if c.Try != 4 || words[0].Edition != 5 {
		t.Fatalf("ClientAgain is %#v", c)
	}
	for _, w := range []impl.Word{
		{Kind: impl.WordAccept, Client: 2, Try: 4, Edition: 6, Data: "20/8:1,3:2,3"}, {Kind: impl.WordAccept, Client: 2, Try: 4, Edition: 5, Data: "20/8:3:1"}, {Kind: impl.WordAccept, Client: 2, Try: 4, Edition: 5, Data: "no plan"}, {Kind: impl.WordAccept, Client: 2, Try: 3, Edition: 5, Data: "20/8:1,3:2,3"}, {Kind: impl.WordAccept, Client: 2, Try: 5, Edition: 5, Data: "20/8:1,3:2,3"},
		{Kind: impl.WordGone, Client: 2, Try: 4}, {Kind: impl.WordGone, Client: 2, Try: 4, Edition: 6}, {Kind: impl.WordGone, Client: 2, Try: 3, Edition: 5}, {Kind: impl.WordSymbol, Client: 2, Try: 4, Edition: 5, Num: 1, Data: "xjumpsov"},
	} {
		if got, words := checkClientHear(t, c, w); !sameClient(got, c) || len(words) != 0 {
			t.Errorf("behind %#v there is %#v, and %#v", w, got, words)
		}
	}
	got, words := checkClientHear(t, c, impl.Word{Kind: impl.WordAccept, Client: 2, Try: 4, Edition: 5, Data: "20/8:1,3:2,3"})
	if got.Stands != impl.ClientGets || impl.ClientText(got) != "theredfo" || len(words) != 0 {
		t.Errorf("accepted it is %#v", got)
	}
	lost, _ := checkClientHear(t, c, impl.Word{Kind: impl.WordGone, Client: 2, Try: 4, Edition: 5})
	if lost.Stands != impl.ClientLost || impl.ClientText(lost) != "theredfo" {
		t.Errorf("of what is gone it is %#v", lost)
	}
}

func TestP55NothingThatIsHeardMakesLessKnown(t *testing.T) {
	r := newSource(132)
	kinds := map[int]int{}
	for range 4000 {
		c, text := someClient(t, r)
		for range 6 {
			w := someClientWord(r, c, text)
			next, words := checkClientHear(t, c, w)
			if !impl.ClientOk(next) || next.Id != c.Id || next.Try != c.Try || next.Name != c.Name || c.Edition > 0 && next.Edition != c.Edition || !strings.HasPrefix(impl.ClientText(next), impl.ClientText(c)) {
				t.Fatalf("behind %#v %#v is %#v", w, c, next)
			}
			if w.Try != c.Try && !sameClient(next, c) {
				t.Fatalf("a word of the try %d changes %#v", w.Try, c)
			}
			for _, answer := range words {
				kinds[answer.Kind]++
				if !impl.WordOk(answer) || answer.Client != c.Id {
					t.Fatalf("%#v is answered by %#v", w, answer)
				}
			}
			c = next
		}
	}
	if kinds[impl.WordKnown] < 50 || kinds[impl.WordDone] < 50 || len(kinds) != 2 {
		t.Errorf("answered: %v", kinds)
	}
}

// Words of an elder try, of a later one, and of another client.
func TestP55WordsOfOtherTries(t *testing.T) {
	for _, c := range []impl.Client{knowing(t, 1), knowing(t, 1, 0), knowing(t, 2, 0), knowing(t, 3, 0, 1, 2), knowing(t, 4, 0), {Id: 2, Try: 3}} {
		symbol := impl.Word{Kind: impl.WordSymbol, Client: 2, Try: 2, Edition: 5, Num: 1, Data: "xjumpsov"}
		got, words := checkClientHear(t, c, symbol)
		if !sameClient(got, c) || len(words) != 1 || words[0] != (impl.Word{Kind: impl.WordDone, Client: 2, Try: 2, Edition: 5}) {
			t.Errorf("a symbol of an elder try is answered by %#v", words)
		}
		symbol.Try = 4
		if got, words := checkClientHear(t, c, symbol); !sameClient(got, c) || len(words) != 0 {
			t.Errorf("a symbol of a later try is answered by %#v", words)
		}
		symbol.Try, symbol.Client = 3, 0
		if got, words := checkClientHear(t, c, symbol); !sameClient(got, c) || len(words) != 0 {
			t.Errorf("a symbol of another client is answered by %#v", words)
		}
		for _, w := range []impl.Word{{Kind: impl.WordAccept, Client: 2, Try: 2, Edition: 5, Data: "20/8:1,3:2,3"}, {Kind: impl.WordGone, Client: 2, Try: 2, Edition: 5}, {Kind: impl.WordGone, Client: 2, Try: 2}} {
			if got, words := checkClientHear(t, c, w); !sameClient(got, c) || len(words) != 0 {
				t.Errorf("%#v is answered by %#v: %#v", w, words, got)
			}
		}
	}
}

// What there is not is told to whoever waits for it, by its edition or by none.
func TestP55WhatIsGone(t *testing.T) {
	for _, c := range []struct {
		client  impl.Client
		edition int
		stands  int
	}{
		{knowing(t, 1), 0, 4}, {knowing(t, 1), 5, 1}, {knowing(t, 1, 0), 5, 4}, {knowing(t, 1, 0), 0, 1}, {knowing(t, 1, 0), 6, 1}, {knowing(t, 2, 0), 5, 4}, {knowing(t, 2, 0), 0, 2}, {knowing(t, 2, 0), 4, 2},
		{knowing(t, 3, 0, 1, 2), 5, 3}, {knowing(t, 4), 0, 4}, {knowing(t, 4, 0), 5, 4}, {impl.Client{Id: 2, Try: 3}, 0, 0},
	} {
		want := copyClient(c.client)
		want.Stands = c.stands
		got, words := checkClientHear(t, c.client, impl.Word{Kind: impl.WordGone, Client: 2, Try: 3, Edition: c.edition})
		if !sameClient(got, want) || len(words) != 0 {
			t.Errorf("of the edition %d that is gone %#v is %#v", c.edition, c.client, got)
		}
	}
}

// Who asks is accepted once, by any edition, if its plan can be read.
func TestP55Accepted(t *testing.T) {
	c := knowing(t, 1)
	for _, edition := range []int{1, 99999} {
		got, words := checkClientHear(t, c, impl.Word{Kind: impl.WordAccept, Client: 2, Try: 3, Edition: edition, Data: "300/13:6,24:2,3"})
		if got.Stands != impl.ClientGets || got.Edition != edition || !sameGetting(got.Get, impl.GetNew(impl.PlanFor(300))) || len(words) != 0 {
			t.Errorf("accepted it is %#v", got)
		}
		// Another edition does not take its place.
		if again, _ := checkClientHear(t, got, impl.Word{Kind: impl.WordAccept, Client: 2, Try: 3, Edition: 7, Data: "20/8:1,3:2,3"}); !sameClient(again, got) {
			t.Errorf("accepted twice it is %#v", again)
		}
	}
	for _, data := range []string{"x", "300/13:6,24:2", "300/12:6,25:2,3", "0/8:1:1", "301/13:6,24:2,3", " 20/8:3:1"} {
		if got, _ := checkClientHear(t, c, impl.Word{Kind: impl.WordAccept, Client: 2, Try: 3, Edition: 5, Data: data}); !sameClient(got, c) {
			t.Errorf("accepted by %q it is %#v", data, got)
		}
	}
}

func TestP56ASymbolOfAnotherEdition(t *testing.T) {
	r := newSource(133)
	for range 1500 {
		c, text := someClient(t, r)
		w := someClientWord(r, c, text)
		p := impl.PlanFor(len(text))
		w.Kind, w.Name, w.Num = impl.WordSymbol, "", someId(r, p)
		w.Data, _ = impl.PlanSymbol(p, text, w.Num)
		if w.Edition == c.Edition || r.Intn(4) == 0 {
			w.Edition = []int{c.Edition + 1, c.Edition - 1, 99999 - c.Edition, 7}[r.Intn(4)]
		}
		next, words := checkClientHear(t, c, w)
		if w.Edition != c.Edition && !sameClient(next, c) {
			t.Fatalf("%#v changes %#v to %#v", w, c, next)
		}
		for _, answer := range words {
			if answer != (impl.Word{Kind: impl.WordDone, Client: w.Client, Try: w.Try, Edition: w.Edition}) && w.Edition != c.Edition {
				t.Fatalf("%#v is answered by %#v", w, answer)
			}
		}
	}
	// It is refused by whoever gets something, and left by whoever asks.
	w := impl.Word{Kind: impl.WordSymbol, Client: 2, Try: 3, Edition: 6, Num: 1, Data: "xjumpsov"}
	for stands, answers := range map[int]int{1: 0, 2: 1, 4: 1} {
		if got, words := checkClientHear(t, knowing(t, stands, 0), w); len(words) != answers || impl.ClientText(got) != "theredfo" {
			t.Errorf("of one that stands %d a symbol of another edition is answered by %#v", stands, words)
		}
	}
}

func TestP57WhoWantsNoMore(t *testing.T) {
	r := newSource(134)
	for range 1000 {
		c, text := someClient(t, r)
		stopped, words := impl.ClientStop(c)
		want := []impl.Word{{Kind: impl.WordDone, Client: c.Id, Try: c.Try, Edition: c.Edition}}
		if c.Edition == 0 {
			want = nil
		}
		if !sameClient(stopped, impl.Client{Id: c.Id, Try: c.Try}) || !impl.ClientOk(stopped) || !slices.Equal(words, want) {
			t.Fatalf("ClientStop of %#v is %#v %#v", c, stopped, words)
		}
		for range 5 {
			w := someClientWord(r, c, text)
			next, words := checkClientHear(t, stopped, w)
			isAnswered := w.Kind == impl.WordSymbol && impl.WordOk(w) && w.Client == c.Id && w.Try <= c.Try
			if !sameClient(next, stopped) || impl.ClientText(next) != "" || (len(words) == 1) != isAnswered || isAnswered && words[0] != refusing(w)[0] {
				t.Fatalf("behind ClientStop %#v is answered by %#v: %#v", w, words, next)
			}
		}
		again, words := impl.ClientStop(stopped)
		if !sameClient(again, stopped) || len(words) != 0 || len(impl.ClientTick(stopped)) != 0 {
			t.Fatalf("stopped twice it is %#v %#v", again, words)
		}
	}
}

func TestP58WhoWaitsAsks(t *testing.T) {
	r := newSource(135)
	seen := map[int]int{}
	for range 1000 {
		c, _ := someClient(t, r)
		seen[c.Stands]++
		words := impl.ClientTick(c)
		waits := c.Stands == impl.ClientAsks || c.Stands == impl.ClientGets
		if waits != (len(words) == 1) || waits && words[0] != (impl.Word{Kind: impl.WordOpen, Client: c.Id, Try: c.Try, Edition: c.Edition, Name: c.Name}) {
			t.Fatalf("ClientTick of %#v is %#v", c, words)
		}
	}
	if len(seen) != 5 {
		t.Errorf("clients stand %v", seen)
	}
	// By hand, one for each way to stand.
	for _, c := range []struct {
		client impl.Client
		want   []impl.Word
	}{
		{impl.Client{Id: 2, Try: 3}, nil}, {knowing(t, 1), []impl.Word{{Kind: impl.WordOpen, Client: 2, Try: 3, Name: "a"}}}, {knowing(t, 1, 0), []impl.Word{{Kind: impl.WordOpen, Client: 2, Try: 3, Edition: 5, Name: "a"}}}, {knowing(t, 2, 0), []impl.Word{{Kind: impl.WordOpen, Client: 2, Try: 3, Edition: 5, Name: "a"}}}, {knowing(t, 3, 0, 1, 2), nil}, {knowing(t, 4), nil}, {knowing(t, 4, 0), nil},
	} {
		if got := impl.ClientTick(c.client); !slices.Equal(got, c.want) {
			t.Errorf("ClientTick of one that stands %d is %#v", c.client.Stands, got)
		}
	}
}

// All symbols of an edition, the last first.
func TestP59WhoKnowsAllSaysSo(t *testing.T) {
	for _, long := range []int{1, 7, 8, 9, 20, 60, 192, 193, 300} {
		text := strings.Repeat("0123456789abcdefghijklmnopqrstuvwxyz", 9)[:long]
		p := impl.PlanFor(long)
		c, _ := impl.ClientOpen(impl.ClientNew(1), "a")
		c, _ = checkClientHear(t, c, impl.Word{Kind: impl.WordAccept, Client: 1, Try: 1, Edition: 9, Data: impl.PlanWrite(p)})
		for id := impl.PlanCount(p) - 1; id >= 0; id-- {
			w := impl.Word{Kind: impl.WordSymbol, Client: 1, Try: 1, Edition: 9, Num: id, Data: mustSymbol(t, p, text, id)}
			next, words := checkClientHear(t, c, w)
			if id > 0 && (next.Stands != impl.ClientGets || impl.ClientText(next) != "" || len(words) != 0) {
				t.Fatalf("of %d bytes, behind the symbol %d, it is %#v %#v", long, id, next, words)
			}
			if id == 0 && (next.Stands != impl.ClientFull || impl.ClientText(next) != text || !slices.Equal(words, []impl.Word{{Kind: impl.WordDone, Client: 1, Try: 1, Edition: 9}})) {
				t.Fatalf("of %d bytes, behind all symbols, it is %#v %#v", long, next, words)
			}
			c = next
		}
		// Behind that it says so again, whatever it is told.
		for _, w := range []impl.Word{{Kind: impl.WordSymbol, Client: 1, Try: 1, Edition: 9, Num: 3, Data: "whatever"}, {Kind: impl.WordSymbol, Client: 1, Try: 1, Edition: 8, Num: 3, Data: "x"}} {
			if got, words := checkClientHear(t, c, w); !sameClient(got, c) || !slices.Equal(words, refusing(w)) {
				t.Errorf("behind all %#v is answered by %#v", w, words)
			}
		}
		if again, words := impl.ClientAgain(c); !sameClient(again, c) || len(words) != 0 || len(impl.ClientTick(c)) != 0 {
			t.Errorf("behind all it asks: %#v %#v", again, words)
		}
	}
}

// A symbol that is known, one that is wrong, and one that is none tell nothing more.
func TestP59SymbolsThatTellNothing(t *testing.T) {
	c := knowing(t, 2, 0)
	for _, w := range []impl.Word{
		{Kind: impl.WordSymbol, Client: 2, Try: 3, Edition: 5, Num: 0, Data: "theredfo"}, {Kind: impl.WordSymbol, Client: 2, Try: 3, Edition: 5, Num: 0, Data: "theredxx"}, {Kind: impl.WordSymbol, Client: 2, Try: 3, Edition: 5, Num: 1, Data: "short"}, {Kind: impl.WordSymbol, Client: 2, Try: 3, Edition: 5, Num: 10000, Data: "12345678"}, {Kind: impl.WordSymbol, Client: 2, Try: 3, Edition: 5, Num: 99999, Data: "12345678"},
	} {
		if got, words := checkClientHear(t, c, w); !sameClient(got, c) || len(words) != 0 {
			t.Errorf("%#v is answered by %#v", w, words)
		}
	}
	// A window that is known is said once.
	none := knowing(t, 2, -1)
	first := impl.Word{Kind: impl.WordSymbol, Client: 2, Try: 3, Edition: 5, Num: 0, Data: "theredfo"}
	got, words := checkClientHear(t, none, first)
	if !slices.Equal(words, []impl.Word{{Kind: impl.WordKnown, Client: 2, Try: 3, Edition: 5, Num: 1}}) {
		t.Errorf("the first window is answered by %#v", words)
	}
	if _, words := checkClientHear(t, got, first); len(words) != 0 {
		t.Errorf("the first window, twice, is answered by %#v", words)
	}
	if got, words := checkClientHear(t, none, impl.Word{Kind: impl.WordSymbol, Client: 2, Try: 3, Edition: 5, Num: 1, Data: "xjumpsov"}); len(words) != 0 || sameClient(got, none) {
		t.Errorf("a block of the second window is answered by %#v", words)
	}
}

// A client asks, stops, asks again, and hears what is late, of other editions, and twice.
func TestP53ToP59AStory(t *testing.T) {
	c, _ := impl.ClientOpen(impl.ClientNew(2), "a")
	c, _ = checkClientHear(t, c, impl.Word{Kind: impl.WordAccept, Client: 2, Try: 1, Edition: 5, Data: "20/8:1,3:2,3"})
	symbol := func(try int, edition int, id int) impl.Word {
		return impl.Word{Kind: impl.WordSymbol, Client: 2, Try: try, Edition: edition, Num: id, Data: mustSymbol(t, impl.PlanFor(20), foxText, id)}
	}
	c, _ = checkClientHear(t, c, symbol(1, 5, 0))
	c, words := impl.ClientStop(c)
	if len(words) != 1 || impl.ClientText(c) != "" {
		t.Fatalf("stopped it is %#v", c)
	}
	c, words = checkClientHear(t, c, symbol(1, 5, 1))
	if len(words) != 1 || c.Edition != 0 {
		t.Fatalf("stopped it hears %#v", c)
	}
	c, words = impl.ClientOpen(c, "a")
	if c.Try != 2 || len(words) != 1 {
		t.Fatalf("anew it is %#v", c)
	}
	// What comes late of the first try does not accept it, nor tell it that there is none.
	for _, w := range []impl.Word{{Kind: impl.WordAccept, Client: 2, Try: 1, Edition: 5, Data: "20/8:1,3:2,3"}, {Kind: impl.WordGone, Client: 2, Try: 1}} {
		if got, words := checkClientHear(t, c, w); !sameClient(got, c) || len(words) != 0 {
			t.Fatalf("%#v is answered by %#v", w, words)
		}
	}
	c, _ = checkClientHear(t, c, impl.Word{Kind: impl.WordAccept, Client: 2, Try: 2, Edition: 6, Data: "20/8:1,3:2,3"})
	for _, step := range []struct {
		word   impl.Word
		text   string
		answer int // its kind; 0: none
	}{
		{symbol(2, 6, 1), "", 0}, {symbol(2, 5, 0), "", 5}, {symbol(1, 6, 0), "", 5}, {symbol(2, 6, 1), "", 0}, {symbol(2, 6, 0), foxText[:16], 4}, {symbol(2, 6, 0), foxText[:16], 0}, {symbol(3, 6, 2), foxText[:16], 0}, {symbol(2, 6, 2), foxText, 5}, {symbol(2, 6, 2), foxText, 5}, {symbol(1, 5, 9), foxText, 5}, {symbol(3, 6, 9), foxText, 0},
	} {
		next, words := checkClientHear(t, c, step.word)
		answer := 0
		if len(words) == 1 {
			answer = words[0].Kind
		}
		if impl.ClientText(next) != step.text || answer != step.answer {
			t.Fatalf("behind %#v it knows %q, and says %#v", step.word, impl.ClientText(next), words)
		}
		c = next
	}
	if c.Stands != impl.ClientFull || c.Edition != 6 || c.Try != 2 {
		t.Errorf("at the last it is %#v", c)
	}
}

// A server and its clients, some words between them lost: all know all in the end, and the server tells nobody anything any more.
func TestP45ToP59ServerAndClients(t *testing.T) {
	r := newSource(136)
	for range 12 {
		s := impl.ServerNew()
		texts := []string{someText(r, 1+r.Intn(300)), someText(r, 1+r.Intn(300))}
		var clients []impl.Client
		for house, text := range texts {
			s, _ = checkServerPut(t, s, house, "a", text)
		}
		for id := range 4 {
			c, _ := impl.ClientOpen(impl.ClientNew(id), "a")
			clients = append(clients, c)
		}
		for range 400 {
			var words []impl.Word
			s, words = checkServerTick(t, s)
			if id := r.Intn(4); r.Intn(4) == 0 {
				var answer []impl.Word
				for _, ask := range impl.ClientTick(clients[id]) {
					s, answer = checkServerHear(t, s, ask)
					words = append(words, answer...)
				}
			}
			for _, w := range words {
				if r.Intn(3) == 0 {
					continue
				}
				var answers []impl.Word
				clients[w.Client], answers = checkClientHear(t, clients[w.Client], w)
				for _, answer := range answers {
					if r.Intn(3) > 0 {
						s, _ = checkServerHear(t, s, answer)
					}
				}
			}
		}
		for id, c := range clients {
			if c.Stands != impl.ClientFull || impl.ClientText(c) != texts[id%2] {
				t.Errorf("client %d is %#v", id, c)
			}
		}
		if len(s.Serves) != 0 {
			t.Errorf("the server tells %#v", s.Serves)
		}
	}
}
