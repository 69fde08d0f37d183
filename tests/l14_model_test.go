package tests

import (
	"fmt"
	"math/rand"
	"regexp"
	"slices"
	"strconv"
	"strings"
	"testing"

	"loop.example/wellhead/impl"
)

// sameWorld compares worlds; the empty and the nil list are the same.
func sameWorld(a impl.World, b impl.World) bool {
	return sameServer(a.Server, b.Server) && slices.EqualFunc(a.Clients, b.Clients, sameClient) && slices.Equal(a.Radio, b.Radio) && slices.Equal(a.Given, b.Given)
}

// copyWorld is a world in memory of its own.
func copyWorld(w impl.World) impl.World {
	w.Server, w.Radio, w.Given = copyServer(w.Server), slices.Clone(w.Radio), slices.Clone(w.Given)
	var clients []impl.Client
	for _, c := range w.Clients {
		clients = append(clients, copyClient(c))
	}
	w.Clients = clients
	return w
}

// worldHasForm says whether a world is as chapter 14 has it.
func worldHasForm(w impl.World) bool {
	if !serverHasForm(w.Server) || len(w.Clients) != 4 || len(w.Radio) > 60 {
		return false
	}
	for id := range 4 {
		if c := w.Clients[id]; c.Id != id || !clientHasForm(c) || c.Edition > len(w.Given) {
			return false
		}
	}
	for _, p := range w.Radio {
		if !slices.Contains([]int{0, 1, 2, 3, 9}, p.To) || len(p.Text) > 160 {
			return false
		}
	}
	return givenHasForm(w)
}

// givenHasForm says whether Given are as the log has them; where the server is down the log may have one more.
func givenHasForm(w impl.World) bool {
	for i, item := range w.Given {
		if !mayBe(item.House, item.Name, item.Text) || item.Edition != i+1 {
			return false
		}
	}
	records, _ := wantRead(w.Server.Log)
	said, _ := catSaid(records)
	if said.Last != len(w.Given) && (w.Server.Up || said.Last != len(w.Given)+1) {
		return false
	}
	for edition := 1; edition <= len(w.Given); edition++ {
		if item, given := itemOf(said, edition); given && item != w.Given[edition-1] {
			return false
		}
	}
	return true
}

// sent is a world behind words that are sent: those of a client go to the server, those of the server to a client.
func sent(w impl.World, byServer bool, words []impl.Word) impl.World {
	for _, word := range words {
		to := 9
		if byServer {
			to = word.Client
		}
		if len(w.Radio) < 60 {
			w.Radio = append(w.Radio, impl.Packet{To: to, Text: withSum(bodyOf(word))})
		}
	}
	return w
}

// wantDo is what WorldDo has to answer.
func wantDo(w impl.World, e impl.Event) (impl.World, bool) {
	if !worldHasForm(w) {
		return impl.World{}, false
	}
	next, can := wantDone(copyWorld(w), e)
	if !can {
		return w, false
	}
	for edition := len(next.Given) + 1; edition <= next.Server.Cat.Last; edition++ {
		if item, given := itemOf(next.Server.Cat, edition); given {
			next.Given = append(next.Given, item)
		}
	}
	return next, true
}

// wantDone is a world, into which may be written, behind what happens, if it can be.
func wantDone(w impl.World, e impl.Event) (impl.World, bool) {
	var code int
	was := w.Server
	switch e.Kind {
	case impl.WorldPut:
		w.Server, code = wantServerPut(w.Server, e.At, e.Name, e.Text)
		return w, code == 0
	case impl.WorldTake:
		w.Server, code = wantServerTake(w.Server, e.At, e.Name)
		return w, code == 0
	case impl.WorldServe:
		var words []impl.Word
		w.Server, words = wantTick(w.Server)
		return sent(w, true, words), w.Server.Now == was.Now+1
	case impl.WorldFall:
		w.Server = wantFall(w.Server, recordOf(e), e.Num)
		return w, was.Up
	case impl.WorldRise:
		w.Server = wantRise(w.Server)
		return w, !was.Up
	case impl.WorldOpen, impl.WorldAgain, impl.WorldStop, impl.WorldTick:
		return wantMoved(w, e)
	case impl.WorldBring, impl.WorldLose, impl.WorldSpoil:
		if !within(e.At, 0, len(w.Radio)-1) {
			return w, false
		}
		return wantHandled(w, e)
	}
	return w, false
}

// recordOf is the record that a server writes as it falls; none, if there is no such one.
func recordOf(e impl.Event) string {
	if text := e.Text; mayBe(e.At, e.Name, text) || text == "" && mayBe(e.At, e.Name, "x") {
		return fmt.Sprintf("%d %s:%s", e.At, e.Name, text)
	}
	return ""
}

// wantMoved is a world behind what a client does.
func wantMoved(w impl.World, e impl.Event) (impl.World, bool) {
	if !within(e.At, 0, 3) {
		return w, false
	}
	was := w.Clients[e.At]
	var next impl.Client
	var words []impl.Word
	switch e.Kind {
	case impl.WorldOpen:
		next, words = wantOpen(was, e.Name)
	case impl.WorldAgain:
		next, words = wantAgain(was)
	case impl.WorldStop:
		next, words = wantStop(was)
		w.Clients[e.At] = next
		return sent(w, false, words), was.Stands != 0
	case impl.WorldTick:
		waits := was.Stands == 1 || was.Stands == 2
		if waits {
			w = sent(w, false, asking(was))
		}
		return w, waits
	}
	w.Clients[e.At] = next
	return sent(w, false, words), next.Try == was.Try+1
}

// wantHandled is a world behind what happens to a word under way, which there is.
func wantHandled(w impl.World, e impl.Event) (impl.World, bool) {
	p := w.Radio[e.At]
	if e.Kind == impl.WorldSpoil {
		if p.Spoil || p.Text == "" || e.Num < 0 {
			return w, false
		}
		place, way := (e.Num%4096)%len(p.Text), byte(1+(e.Num/4096)%255)
		w.Radio[e.At] = impl.Packet{To: p.To, Text: p.Text[:place] + string([]byte{p.Text[place] ^ way}) + p.Text[place+1:], Spoil: true}
		return w, true
	}
	if e.Kind == impl.WorldLose || !e.Keep {
		w.Radio = append(w.Radio[:e.At:e.At], w.Radio[e.At+1:]...)
	}
	word, ok := impl.WordRead(p.Text)
	if e.Kind == impl.WorldLose || !ok {
		return w, true
	}
	var words []impl.Word
	if p.To == 9 {
		w.Server, words = wantHear(w.Server, word)
	} else {
		w.Clients[p.To], words = wantClientHear(w.Clients[p.To], word)
	}
	return sent(w, p.To == 9, words), true
}

// wantAllBrought is a world in which the first word under way was brought, 400 times at most.
func wantAllBrought(w impl.World) impl.World {
	for times := 0; times < 400 && len(w.Radio) > 0; times++ {
		w, _ = wantDo(w, impl.Event{Kind: 8})
	}
	return w
}

// wantCalm is what WorldCalm has to answer.
func wantCalm(w impl.World, rounds int) impl.World {
	if !worldHasForm(w) {
		return impl.World{}
	}
	if rounds <= 0 {
		return w
	}
	w, _ = wantDo(w, impl.Event{Kind: 12})
	w = wantAllBrought(w)
	for round := 0; round < rounds && round < 10; round++ {
		for client := range 4 {
			w, _ = wantDo(w, impl.Event{Kind: 7, At: client})
			w = wantAllBrought(w)
		}
		for range 90 {
			w, _ = wantDo(w, impl.Event{Kind: 6})
			w = wantAllBrought(w)
		}
	}
	return w
}

// wantSafe is what WorldSafe has to answer.
func wantSafe(w impl.World) bool {
	if !worldHasForm(w) {
		return false
	}
	for id, c := range w.Clients {
		if c.Edition == 0 {
			continue
		}
		item, known := w.Given[c.Edition-1], impl.GetText(c.Get)
		if item.House != id%2 || item.Name != c.Name || len(item.Text) != c.Get.Plan.Long || len(known) > len(item.Text) || item.Text[:len(known)] != known || c.Stands == 3 && known != item.Text {
			return false
		}
	}
	return true
}

// wantStill is what WorldStill has to answer.
func wantStill(w impl.World) bool {
	return worldHasForm(w) && !slices.ContainsFunc(w.Clients, func(c impl.Client) bool { return c.Stands == 1 || c.Stands == 2 })
}

// wantBoard is what WorldBoard has to answer.
func wantBoard(w impl.World) string {
	if !worldHasForm(w) {
		return ""
	}
	lines := []string{"server down"}
	if w.Server.Up {
		lines = []string{fmt.Sprintf("server up, %d things of %d, %d told", len(w.Server.Cat.Items), w.Server.Cat.Last, len(w.Server.Serves))}
		for _, item := range w.Server.Cat.Items {
			lines = append(lines, fmt.Sprintf("  house %d %s edition %d, %d bytes", item.House, item.Name, item.Edition, len(item.Text)))
		}
	}
	for _, c := range w.Clients {
		line := fmt.Sprintf("client %d %s, try %d", c.Id, strings.Fields("idle asks gets full lost")[c.Stands], c.Try)
		if c.Edition != 0 {
			line += fmt.Sprintf(", %s edition %d, knows %d of %d", c.Name, c.Edition, len(impl.GetText(c.Get)), c.Get.Plan.Long)
		}
		lines = append(lines, line)
	}
	return strings.Join(lines, "\n") + fmt.Sprintf("\n%d under way\n", len(w.Radio))
}

// sessionForms are the lines that say that something happens, with how they are read.
var sessionForms = []struct {
	form *regexp.Regexp
	kind int
}{
	{regexp.MustCompile(`(?s)^put (0|[1-9][0-9]{0,5}) ([^ ]*) ([^ ]*)$`), 1},
	{regexp.MustCompile(`(?s)^take (0|[1-9][0-9]{0,5}) ([^ ]*)$`), 2},
	{regexp.MustCompile(`(?s)^open (0|[1-9][0-9]{0,5}) ([^ ]*)$`), 3},
	{regexp.MustCompile(`^again (0|[1-9][0-9]{0,5})$`), 4},
	{regexp.MustCompile(`^stop (0|[1-9][0-9]{0,5})$`), 5},
	{regexp.MustCompile(`^serve$`), 6},
	{regexp.MustCompile(`^tick (0|[1-9][0-9]{0,5})$`), 7},
	{regexp.MustCompile(`^bring (0|[1-9][0-9]{0,5})$`), 8},
	{regexp.MustCompile(`^double (0|[1-9][0-9]{0,5})$`), 8},
	{regexp.MustCompile(`^lose (0|[1-9][0-9]{0,5})$`), 9},
	{regexp.MustCompile(`^spoil (0|[1-9][0-9]{0,5}) (0|[1-9][0-9]{0,5})$`), 10},
	{regexp.MustCompile(`^fall$`), 11},
	{regexp.MustCompile(`^rise$`), 12},
}

// Lines that ask, or let be calm.
var (
	calmForm = regexp.MustCompile(`^calm ([0-9]|10)$`)
	textForm = regexp.MustCompile(`^text ([0-3])$`)
)

// wantEvent is what a line says that happens, if it says that.
func wantEvent(line string) (impl.Event, bool) {
	for _, f := range sessionForms {
		parts := f.form.FindStringSubmatch(line)
		if parts == nil {
			continue
		}
		e := impl.Event{Kind: f.kind, Keep: strings.HasPrefix(line, "double")}
		parts = append(parts, "", "", "")
		e.At, _ = strconv.Atoi(parts[1])
		if f.kind == 10 {
			e.Num, _ = strconv.Atoi(parts[2])
			return e, true
		}
		e.Name, e.Text = parts[2], parts[3]
		return e, true
	}
	return impl.Event{}, false
}

// wantAnswer is a world behind a line, and how that is answered; the calm itself is the one of the program, as the model of it is slow.
func wantAnswer(w impl.World, line string) (impl.World, string) {
	if parts := calmForm.FindStringSubmatch(line); parts != nil {
		rounds, _ := strconv.Atoi(parts[1])
		w = impl.WorldCalm(w, rounds)
		if wantStill(w) {
			return w, "still"
		}
		return w, "not still"
	}
	if parts := textForm.FindStringSubmatch(line); parts != nil {
		return w, "knows " + impl.GetText(w.Clients[parts[1][0]-'0'].Get)
	}
	e, ok := wantEvent(line)
	if !ok {
		return w, "what"
	}
	next, can := wantDo(w, e)
	if can {
		return next, "ok"
	}
	return next, "no"
}

// newWorld is WorldNew by the model.
func newWorld() impl.World {
	full := impl.Bucket{Level: 40, Most: 40, Rate: 8}
	return impl.World{Server: impl.Server{Up: true, Pool: emptyPool(), Buckets: []impl.Bucket{full, full}}, Clients: []impl.Client{{}, {Id: 1}, {Id: 2}, {Id: 3}}}
}

// wantSession is what WorldSession has to answer.
func wantSession(lines []string) string {
	w, all, answer := newWorld(), "", ""
	for i, line := range lines {
		if i < 100 {
			w, answer = wantAnswer(w, line)
			all += answer + "\n"
		}
	}
	return all + wantBoard(w)
}

// checkWorld holds all that a world is asked against the model.
func checkWorld(t *testing.T, w impl.World) {
	t.Helper()
	if got := impl.WorldOk(w); got != worldHasForm(w) {
		t.Fatalf("WorldOk of %#v is %#v", w, got)
	}
	if got := impl.WorldSafe(w); got != wantSafe(w) {
		t.Fatalf("WorldSafe of %#v is %#v", w, got)
	}
	if got := impl.WorldStill(w); got != wantStill(w) {
		t.Fatalf("WorldStill of %#v is %#v", w, got)
	}
	if got := impl.WorldBoard(w); got != wantBoard(w) {
		t.Fatalf("WorldBoard of %#v is %q, not %q", w, got, wantBoard(w))
	}
}

// checkDo holds WorldDo against the model, and tells what it answers.
func checkDo(t *testing.T, w impl.World, e impl.Event) (impl.World, bool) {
	t.Helper()
	want, wantCan := wantDo(w, e)
	got, can := impl.WorldDo(w, e)
	if !sameWorld(got, want) || can != wantCan {
		t.Fatalf("WorldDo of %#v and %#v is %#v %#v, not %#v %#v", w, e, got, can, want, wantCan)
	}
	return got, can
}

// checkCalm holds WorldCalm against the model, and tells what it answers.
func checkCalm(t *testing.T, w impl.World, rounds int) impl.World {
	t.Helper()
	want, got := wantCalm(w, rounds), impl.WorldCalm(w, rounds)
	if !sameWorld(got, want) {
		t.Fatalf("WorldCalm of %#v and %d is %#v, not %#v", w, rounds, got, want)
	}
	return got
}

// checkSession holds WorldSession against the model.
func checkSession(t *testing.T, lines []string) string {
	t.Helper()
	want, got := wantSession(lines), impl.WorldSession(lines)
	if got != want {
		t.Fatalf("WorldSession of %q is\n%s\nnot\n%s", lines, got, want)
	}
	return got
}

// mustDo lets something happen that can be.
func mustDo(t *testing.T, w impl.World, e impl.Event) impl.World {
	t.Helper()
	next, can := checkDo(t, w, e)
	if !can {
		t.Fatalf("%#v can be in %#v", e, w)
	}
	return next
}

// mustAll lets all happen, one behind the other, from a new world on.
func mustAll(t *testing.T, list ...impl.Event) impl.World {
	t.Helper()
	w := newWorld()
	for _, e := range list {
		w = mustDo(t, w, e)
	}
	return w
}

// storm is how often things happen: of each kind so many.
type storm [13]int

// storms are of several kinds: much of all; words that come; a server that often falls; things that come and go; words that are spoilt and lost; and words that pile up.
func storms() []storm {
	return []storm{
		{0: 1, 1: 3, 2: 1, 3: 2, 4: 1, 5: 1, 6: 25, 7: 3, 8: 55, 9: 2, 10: 2, 11: 1, 12: 6},
		{1: 2, 3: 2, 4: 1, 6: 30, 7: 1, 8: 60},
		{1: 4, 2: 1, 3: 2, 4: 2, 5: 1, 6: 22, 7: 4, 8: 50, 11: 3, 12: 20},
		{1: 9, 2: 7, 3: 4, 4: 3, 5: 1, 6: 22, 7: 4, 8: 50, 11: 1, 12: 4},
		{1: 3, 2: 1, 3: 2, 4: 2, 5: 1, 6: 25, 7: 3, 8: 50, 9: 6, 10: 8},
		{1: 2, 2: 1, 3: 8, 4: 4, 5: 2, 6: 30, 7: 20, 8: 10},
	}
}

// someEvent draws what happens; places are near the first, so that there is often such a one.
func someEvent(r *rand.Rand, often storm) impl.Event {
	all := 0
	for _, n := range often {
		all += n
	}
	kind, left := 0, r.Intn(all)
	for left >= often[kind] {
		left -= often[kind]
		kind++
	}
	e := impl.Event{Kind: kind, Name: someName(r), Keep: r.Intn(4) == 0}
	switch kind {
	case impl.WorldPut, impl.WorldTake, impl.WorldFall:
		e.At, e.Text = r.Intn(2), serveTexts()[r.Intn(10)]
		if kind == impl.WorldFall {
			e.Num = []int{0, 20, r.Intn(60), 400}[r.Intn(4)]
			e.Text = []string{e.Text, ""}[r.Intn(2)]
		}
	case impl.WorldOpen, impl.WorldAgain, impl.WorldStop, impl.WorldTick:
		e.At = r.Intn(4)
	case impl.WorldBring, impl.WorldLose, impl.WorldSpoil:
		e.At = r.Intn(1 + r.Intn(5))
		e.Num = r.Intn(4096 * 300)
	default:
		e.At, e.Num = r.Intn(4), r.Intn(9)
	}
	return e
}

// someEvents draws so many of them, in one storm; often all clients ask first for what is given out.
func someEvents(r *rand.Rand, count int) []impl.Event {
	often := storms()[r.Intn(len(storms()))]
	var list []impl.Event
	for id := range 4 * r.Intn(2) {
		name := someName(r)
		list = append(list, impl.Event{Kind: impl.WorldPut, At: id % 2, Name: name, Text: serveTexts()[r.Intn(10)]}, impl.Event{Kind: impl.WorldOpen, At: id, Name: name})
	}
	for len(list) < count {
		list = append(list, someEvent(r, often))
	}
	return list[:count]
}

// someWorld draws a world behind a play.
func someWorld(r *rand.Rand) impl.World {
	return impl.WorldPlay(someEvents(r, r.Intn(401)))
}
