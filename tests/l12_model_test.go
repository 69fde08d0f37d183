package tests

import (
	"fmt"
	"math/rand"
	"regexp"
	"slices"
	"sort"
	"strings"
	"testing"

	"loop.example/wellhead/impl"
)

// sameServer compares servers; the empty and the nil list are the same.
func sameServer(a impl.Server, b impl.Server) bool {
	return a.Up == b.Up && a.Now == b.Now && a.Log == b.Log && sameCat(a.Cat, b.Cat) && samePool(a.Pool, b.Pool) && slices.Equal(a.Buckets, b.Buckets) && slices.Equal(a.Serves, b.Serves)
}

// copyServer is a server in memory of its own.
func copyServer(s impl.Server) impl.Server {
	s.Cat, s.Pool, s.Buckets, s.Serves = copyCat(s.Cat), copyPool(s.Pool), slices.Clone(s.Buckets), slices.Clone(s.Serves)
	return s
}

// recordForm is how a record is written, but for the length of its text.
var recordForm = regexp.MustCompile(`(?s)^([01]) ([a-z]{1,6}):(.*)$`)

// recordDone is a catalogue behind a record, and whether there can be that record.
func recordDone(c impl.Cat, record string) (impl.Cat, bool) {
	parts := recordForm.FindStringSubmatch(record)
	if parts == nil || len(parts[3]) > 300 {
		return c, false
	}
	house := int(parts[1][0] - '0')
	next, code := wantPut(c, house, parts[2], parts[3])
	if parts[3] == "" {
		next, code = wantTake(c, house, parts[2])
	}
	return next, code == 0
}

// catSaid is what records say, and whether there can be all of them.
func catSaid(records []string) (impl.Cat, bool) {
	var c impl.Cat
	for _, record := range records {
		next, ok := recordDone(c, record)
		if !ok {
			return impl.Cat{}, false
		}
		c = next
	}
	return c, true
}

// itemOf is the thing of an edition, if it is given out.
func itemOf(c impl.Cat, edition int) (impl.Item, bool) {
	for _, item := range c.Items {
		if item.Edition == edition {
			return item, true
		}
	}
	return impl.Item{}, false
}

// within says whether a number is not below the least and not above the most.
func within(number int, least int, most int) bool {
	return number >= least && number <= most
}

// serverHasForm says whether a server is as chapter 12 has it.
func serverHasForm(s impl.Server) bool {
	records, bytes := wantRead(s.Log)
	said, fine := catSaid(records)
	if !within(s.Now, 0, 99999) || len(s.Log) > 9000 || !fine {
		return false
	}
	if !s.Up {
		return sameServer(s, impl.Server{Now: s.Now, Log: s.Log})
	}
	if bytes != len(s.Log) || !sameCat(said, s.Cat) || !poolHasForm(s.Pool) || len(s.Buckets) != 2 {
		return false
	}
	for _, frame := range s.Pool.Frames {
		item, given := itemOf(s.Cat, frame.Edition)
		if frame.Edition != 0 && (frame.Held != 0 || !given || item.House != frame.House || frame.Block >= impl.PlanCount(impl.PlanFor(len(item.Text)))) {
			return false
		}
	}
	for _, b := range s.Buckets {
		if b.Most != 40 || b.Rate != 8 || !within(b.Level, 0, 40) || !within(b.At, 0, s.Now) {
			return false
		}
	}
	for i, serve := range s.Serves {
		item, given := itemOf(s.Cat, serve.Edition)
		if i > 0 && s.Serves[i-1].Client >= serve.Client || !within(serve.Client, 0, 3) || given && item.House != serve.Client%2 {
			return false
		}
		if !within(serve.Try, 1, 99999) || !within(serve.Edition, 1, s.Cat.Last) || !within(serve.Next, 0, 9999) || !within(serve.Windows, 0, 3) || !within(serve.Since, 0, s.Now) {
			return false
		}
	}
	return true
}

// wantWrite is a server behind a record that is written, if there can be that, and the code.
func wantWrite(s impl.Server, next impl.Cat, record string) (impl.Server, int) {
	records, _ := wantRead(s.Log)
	log := s.Log + lineOf(len(records), record)
	if len(log) > 9000 {
		return s, 4
	}
	s = copyServer(s)
	s.Log, s.Cat = log, next
	return s, 0
}

// wantServerPut is what ServerPut has to answer.
func wantServerPut(s impl.Server, house int, name string, text string) (impl.Server, int) {
	if !serverHasForm(s) {
		return impl.Server{}, 1
	}
	if !s.Up {
		return s, 1
	}
	next, code := wantPut(s.Cat, house, name, text)
	if code != 0 {
		return s, code
	}
	return wantWrite(s, next, fmt.Sprintf("%d %s:%s", house, name, text))
}

// wantServerTake is what ServerTake has to answer.
func wantServerTake(s impl.Server, house int, name string) (impl.Server, int) {
	if !serverHasForm(s) {
		return impl.Server{}, 1
	}
	if !s.Up {
		return s, 1
	}
	place := placeOf(s.Cat, house, name)
	if place < 0 {
		return s, 3
	}
	next, _ := wantTake(s.Cat, house, name)
	edition := s.Cat.Items[place].Edition
	s, code := wantWrite(s, next, fmt.Sprintf("%d %s:", house, name))
	for i, frame := range s.Pool.Frames {
		if code == 0 && frame.Edition == edition {
			s.Pool.Frames[i] = impl.Frame{}
		}
	}
	return s, code
}

// serving is whom a server tells something, by clients.
type serving map[int]impl.Serve

func servingOf(s impl.Server) serving {
	all := serving{}
	for _, serve := range s.Serves {
		all[serve.Client] = serve
	}
	return all
}

func (all serving) list() []impl.Serve {
	var list []impl.Serve
	for _, serve := range all {
		list = append(list, serve)
	}
	sort.Slice(list, func(i int, j int) bool { return list[i].Client < list[j].Client })
	return list
}

// wantHear is what ServerHear has to answer.
func wantHear(s impl.Server, w impl.Word) (impl.Server, []impl.Word) {
	if !serverHasForm(s) {
		return impl.Server{}, nil
	}
	if !s.Up || !wordHasForm(w) || w.Client > 3 {
		return s, nil
	}
	all := servingOf(s)
	had, told := all[w.Client]
	same := told && had.Try == w.Try && had.Edition == w.Edition
	var words []impl.Word
	switch w.Kind {
	case impl.WordOpen:
		words = all.open(s, w)
	case impl.WordKnown:
		if same && w.Num <= 3 && had.Windows < w.Num {
			had.Windows = w.Num
			all[w.Client] = had
		}
	case impl.WordDone:
		if same {
			delete(all, w.Client)
		}
	}
	s = copyServer(s)
	s.Serves = all.list()
	return s, words
}

// open is what WordOpen does, and how it is answered.
func (all serving) open(s impl.Server, w impl.Word) []impl.Word {
	had, told := all[w.Client]
	if told && had.Try > w.Try {
		return nil
	}
	place := placeOf(s.Cat, w.Client%2, w.Name)
	if place < 0 || w.Edition != 0 && w.Edition != s.Cat.Items[place].Edition {
		if told && had.Try != w.Try {
			delete(all, w.Client)
		}
		return []impl.Word{{Kind: impl.WordGone, Client: w.Client, Try: w.Try, Edition: w.Edition}}
	}
	item := s.Cat.Items[place]
	if !told || had.Try != w.Try || had.Edition != item.Edition {
		all[w.Client] = impl.Serve{Client: w.Client, Try: w.Try, Edition: item.Edition, Since: s.Now}
	}
	return []impl.Word{{Kind: impl.WordAccept, Client: w.Client, Try: w.Try, Edition: item.Edition, Data: impl.PlanWrite(impl.PlanFor(len(item.Text)))}}
}

// wantTold is whom a server tells something, its time and its buckets being as of now; -1, if nobody is ready.
func wantTold(s impl.Server) int {
	var first [2]int
	for house := range first {
		first[house] = -1
		for client := house; client < 4; client += 2 {
			if serve, told := servingOf(s)[client]; told && (first[house] < 0 || worthOf(s, serve) > worthOf(s, servingOf(s)[first[house]])) {
				first[house] = client
			}
		}
		if first[house] < 0 {
			continue
		}
		item, given := itemOf(s.Cat, servingOf(s)[first[house]].Edition)
		if given && impl.PlanFor(len(item.Text)).Size > s.Buckets[house].Level {
			first[house] = -1
		}
	}
	if first[0] < 0 || first[1] < 0 {
		return max(first[0], first[1])
	}
	worth0, worth1 := worthOf(s, servingOf(s)[first[0]]), worthOf(s, servingOf(s)[first[1]])
	if worth0 > worth1 || worth0 == worth1 && first[0] < first[1] {
		return first[0]
	}
	return first[1]
}

// worthOf is how much it is worth to tell one something.
func worthOf(s impl.Server, serve impl.Serve) int {
	return 3 - serve.Windows + s.Now - serve.Since
}

// wantTick is what ServerTick has to answer.
func wantTick(s impl.Server) (impl.Server, []impl.Word) {
	if !serverHasForm(s) {
		return impl.Server{}, nil
	}
	if !s.Up || s.Now == 99999 {
		return s, nil
	}
	s = copyServer(s)
	s.Now++
	for house, b := range s.Buckets {
		s.Buckets[house] = impl.Bucket{Level: min(40, b.Level+8*(s.Now-b.At)), Most: 40, Rate: 8, At: s.Now}
	}
	client := wantTold(s)
	if client < 0 {
		return s, nil
	}
	all := servingOf(s)
	serve := all[client]
	item, given := itemOf(s.Cat, serve.Edition)
	if !given {
		delete(all, client)
		s.Serves = all.list()
		return s, []impl.Word{{Kind: impl.WordGone, Client: client, Try: serve.Try, Edition: serve.Edition}}
	}
	p := impl.PlanFor(len(item.Text))
	row := wantRow(p, serve.Next)
	for _, block := range row {
		pool, place, _ := wantPoolTake(s.Pool, item.House, item.Edition, block)
		s.Pool = copyPool(pool)
		s.Pool.Frames[place].Held--
	}
	s.Buckets[item.House].Level -= p.Size
	word := impl.Word{Kind: impl.WordSymbol, Client: client, Try: serve.Try, Edition: serve.Edition, Num: serve.Next, Data: wantSum(impl.PlanCut(p, item.Text), row)}
	serve.Next++
	if serve.Next == 10000 {
		serve.Next = 0
	}
	serve.Since = s.Now
	all[client] = serve
	s.Serves = all.list()
	return s, []impl.Word{word}
}

// wantFall is what ServerFall has to answer.
func wantFall(s impl.Server, record string, bytes int) impl.Server {
	if !serverHasForm(s) {
		return impl.Server{}
	}
	down := impl.Server{Now: s.Now, Log: s.Log}
	_, can := recordDone(s.Cat, record)
	records, _ := wantRead(s.Log)
	line := lineOf(len(records), record)
	if s.Up && can && len(s.Log)+len(line) <= 9000 && bytes > 0 {
		down.Log += line[:min(bytes, len(line))]
	}
	return down
}

// wantRise is what ServerRise has to answer.
func wantRise(s impl.Server) impl.Server {
	if !serverHasForm(s) {
		return impl.Server{}
	}
	if s.Up {
		return s
	}
	records, bytes := wantRead(s.Log)
	said, _ := catSaid(records)
	full := impl.Bucket{Level: 40, Most: 40, Rate: 8, At: s.Now}
	return impl.Server{Up: true, Now: s.Now, Log: s.Log[:bytes], Cat: said, Pool: emptyPool(), Buckets: []impl.Bucket{full, full}}
}

// checkServerPut holds ServerPut against the model, and tells what it answers.
func checkServerPut(t *testing.T, s impl.Server, house int, name string, text string) (impl.Server, int) {
	t.Helper()
	want, wantCode := wantServerPut(s, house, name, text)
	got, code := impl.ServerPut(s, house, name, text)
	if !sameServer(got, want) || code != wantCode {
		t.Fatalf("ServerPut of %#v, %d, %q and %q is %#v %d, not %#v %d", s, house, name, text, got, code, want, wantCode)
	}
	return got, code
}

// checkServerTake holds ServerTake against the model, and tells what it answers.
func checkServerTake(t *testing.T, s impl.Server, house int, name string) (impl.Server, int) {
	t.Helper()
	want, wantCode := wantServerTake(s, house, name)
	got, code := impl.ServerTake(s, house, name)
	if !sameServer(got, want) || code != wantCode {
		t.Fatalf("ServerTake of %#v, %d and %q is %#v %d, not %#v %d", s, house, name, got, code, want, wantCode)
	}
	return got, code
}

// checkServerHear holds ServerHear against the model, and tells what it answers.
func checkServerHear(t *testing.T, s impl.Server, w impl.Word) (impl.Server, []impl.Word) {
	t.Helper()
	want, wantWords := wantHear(s, w)
	got, words := impl.ServerHear(s, w)
	if !sameServer(got, want) || !slices.Equal(words, wantWords) {
		t.Fatalf("ServerHear of %#v and %#v is %#v %#v, not %#v %#v", s, w, got, words, want, wantWords)
	}
	return got, words
}

// checkServerTick holds ServerTick against the model, and tells what it answers.
func checkServerTick(t *testing.T, s impl.Server) (impl.Server, []impl.Word) {
	t.Helper()
	want, wantWords := wantTick(s)
	got, words := impl.ServerTick(s)
	if !sameServer(got, want) || !slices.Equal(words, wantWords) {
		t.Fatalf("ServerTick of %#v is %#v %#v, not %#v %#v", s, got, words, want, wantWords)
	}
	return got, words
}

// checkServerFall holds ServerFall against the model, and tells what it answers.
func checkServerFall(t *testing.T, s impl.Server, record string, bytes int) impl.Server {
	t.Helper()
	want, got := wantFall(s, record, bytes), impl.ServerFall(s, record, bytes)
	if !sameServer(got, want) {
		t.Fatalf("ServerFall of %#v, %q and %d is %#v, not %#v", s, record, bytes, got, want)
	}
	return got
}

// checkServerRise holds ServerRise against the model, and tells what it answers.
func checkServerRise(t *testing.T, s impl.Server) impl.Server {
	t.Helper()
	want, got := wantRise(s), impl.ServerRise(s)
	if !sameServer(got, want) {
		t.Fatalf("ServerRise of %#v is %#v, not %#v", s, got, want)
	}
	return got
}

// checkServerOk holds ServerOk against the model.
func checkServerOk(t *testing.T, s impl.Server) {
	t.Helper()
	if got := impl.ServerOk(s); got != serverHasForm(s) {
		t.Fatalf("ServerOk of %#v is %#v", s, got)
	}
}

// serveTexts are of few lengths, so that blocks of 8 and of more bytes come, and one alone.
func serveTexts() []string {
	return []string{"x", "thing of", "thing of a house", "the red fox jumps over it all and away", ":", "a\nb\x00", strings.Repeat("xyz", 66), strings.Repeat("0123456789", 30), strings.Repeat("q", 192), strings.Repeat("q", 193)}
}

// someName draws one of few names.
func someName(r *rand.Rand) string {
	return []string{"a", "ab", "b"}[r.Intn(3)]
}

// someServeWord draws a word that a server may hear, often one of what it tells.
func someServeWord(r *rand.Rand, s impl.Server) impl.Word {
	w := impl.Word{Kind: []int{1, 1, 1, 4, 5, 1 + r.Intn(6)}[r.Intn(6)], Client: r.Intn(4), Try: 1 + r.Intn(4), Edition: r.Intn(s.Cat.Last + 2)}
	if len(s.Serves) > 0 && r.Intn(2) == 0 {
		serve := s.Serves[r.Intn(len(s.Serves))]
		w.Client, w.Try, w.Edition = serve.Client, max(serve.Try+r.Intn(3)-1, 1), serve.Edition
	}
	switch w.Kind {
	case impl.WordOpen:
		w.Name = someName(r)
		w.Edition *= r.Intn(2)
	case impl.WordKnown, impl.WordDone:
		w.Num = r.Intn(5)
	case impl.WordAccept, impl.WordSymbol:
		w.Data = "12345678"
	}
	return w
}

// someStep is a server behind something that happens, as the model has it.
func someStep(r *rand.Rand, s impl.Server) impl.Server {
	switch r.Intn(10) {
	case 0, 1:
		s, _ = wantServerPut(s, r.Intn(2), someName(r), serveTexts()[r.Intn(10)])
	case 2:
		s, _ = wantServerTake(s, r.Intn(2), someName(r))
	case 3, 4, 5:
		s, _ = wantHear(s, someServeWord(r, s))
	case 6:
		if r.Intn(4) == 0 {
			s = wantRise(wantFall(s, "0 abc:more", r.Intn(40)))
		}
	default:
		s, _ = wantTick(s)
	}
	return s
}

// someServer draws a server that is up: behind some steps, its numbers moved then as far as they may be.
func someServer(r *rand.Rand) impl.Server {
	s := wantRise(impl.Server{Now: []int{0, 50, 99999 - r.Intn(60)}[r.Intn(3)]})
	for range r.Intn(60) {
		s = someStep(r, s)
	}
	s = copyServer(s)
	s.Now = min(99999, s.Now+[]int{0, 0, 1, 7}[r.Intn(4)])
	for house := range s.Buckets {
		if r.Intn(2) == 0 {
			s.Buckets[house].Level = r.Intn(20)
		}
	}
	for i := range s.Serves {
		serve := &s.Serves[i]
		if r.Intn(3) == 0 {
			serve.Next = []int{0, 9998, 9999, r.Intn(10000)}[r.Intn(4)]
		}
		if r.Intn(3) == 0 {
			serve.Since = max(0, s.Now-r.Intn(6))
		}
		if r.Intn(3) == 0 {
			serve.Windows = r.Intn(4)
		}
	}
	return s
}

// anyServer draws a server as it may be: up, down, or torn.
func anyServer(r *rand.Rand) impl.Server {
	s := someServer(r)
	if r.Intn(4) == 0 {
		s = wantFall(s, []string{"0 abc:more", "1 abc:more", "0 a:", "1 b:"}[r.Intn(4)], r.Intn(50))
	}
	return s
}
