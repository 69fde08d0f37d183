package tests

import (
	"math/rand"
	"slices"
	"testing"

	"loop.example/wellhead/impl"
)

// bucketHasForm says whether a bucket is as chapter 11 has it.
func bucketHasForm(b impl.Bucket) bool {
	in := func(number int, most int) bool { return number >= 0 && number <= most }
	return in(b.Most, 99999) && in(b.Rate, 99999) && in(b.Level, b.Most) && in(b.At, 99999)
}

// afterTicks is a bucket so many ticks later, tick by tick.
func afterTicks(b impl.Bucket, ticks int) impl.Bucket {
	for range ticks {
		b.Level = min(b.Level+b.Rate, b.Most)
		b.At++
	}
	return b
}

// someBucket draws a bucket that is ok; its numbers are often at a limit.
func someBucket(r *rand.Rand) impl.Bucket {
	count := func(most int) int {
		return []int{0, most, r.Intn(most + 1), min(most, r.Intn(10))}[r.Intn(4)]
	}
	b := impl.Bucket{Most: []int{0, 1, 20, 40, 99999, r.Intn(100000)}[r.Intn(6)], Rate: []int{0, 1, 3, 8, 99999, r.Intn(100)}[r.Intn(6)], At: count(99999)}
	b.Level = count(b.Most)
	return b
}

// edgeBuckets are ok, each at a limit.
func edgeBuckets() []impl.Bucket {
	return []impl.Bucket{
		{}, {Level: 99999, Most: 99999, Rate: 99999, At: 99999}, {Level: 0, Most: 99999, Rate: 99999, At: 0}, {Level: 5, Most: 20, Rate: 0, At: 3}, {Level: 0, Most: 0, Rate: 7, At: 3}, {Level: 20, Most: 20, Rate: 7, At: 3}, {Level: 0, Most: 99999, Rate: 1, At: 0}, {Level: 19, Most: 20, Rate: 1, At: 99998}, {Most: 40, Rate: 8, Level: 40},
	}
}

// badBuckets are not ok, each by one thing alone.
func badBuckets() []impl.Bucket {
	good := impl.Bucket{Level: 1, Most: 20, Rate: 3, At: 2}
	var buckets []impl.Bucket
	for _, number := range []int{-1, 100000, tooBig, tooSmall} {
		for _, change := range []func(b *impl.Bucket){
			func(b *impl.Bucket) { b.Level = number }, func(b *impl.Bucket) { b.Most = number }, func(b *impl.Bucket) { b.Rate = number }, func(b *impl.Bucket) { b.At = number },
		} {
			b := good
			change(&b)
			buckets = append(buckets, b)
		}
	}
	return append(buckets, impl.Bucket{Level: 21, Most: 20, Rate: 3, At: 2}, impl.Bucket{Level: 1}, impl.Bucket{Level: 1, Most: 0, Rate: 3}, impl.Bucket{Level: 100000, Most: 100000}, impl.Bucket{Level: -1, Most: -1})
}

func TestBucketOk(t *testing.T) {
	for _, b := range edgeBuckets() {
		if !impl.BucketOk(b) {
			t.Errorf("%#v is ok", b)
		}
	}
	for _, b := range badBuckets() {
		if impl.BucketOk(b) {
			t.Errorf("%#v is not ok", b)
		}
		for _, now := range []int{-1, 0, 2, 5, 99999, 100000, tooBig, tooSmall} {
			if got := impl.BucketAt(b, now); got != (impl.Bucket{}) {
				t.Errorf("BucketAt of %#v and %d is %#v", b, now, got)
			}
			for _, n := range []int{-1, 0, 1, 5, 99999, tooBig, tooSmall} {
				if got, ok := impl.BucketTake(b, now, n); ok || got != (impl.Bucket{}) {
					t.Errorf("BucketTake of %#v, %d and %d is %#v %#v", b, now, n, got, ok)
				}
				if got := impl.BucketWait(b, now, n); got != -1 {
					t.Errorf("BucketWait of %#v, %d and %d is %d", b, now, n, got)
				}
			}
		}
	}
	// All small numbers, around each limit.
	numbers := []int{tooSmall, -1, 0, 1, 2, 99998, 99999, 100000, tooBig}
	for _, level := range numbers {
		for _, most := range numbers {
			for _, rate := range numbers {
				for _, at := range numbers {
					b := impl.Bucket{Level: level, Most: most, Rate: rate, At: at}
					if got := impl.BucketOk(b); got != bucketHasForm(b) {
						t.Fatalf("BucketOk of %#v is %#v", b, got)
					}
				}
			}
		}
	}
}

func TestP41NoMoreIsTakenThanHasCome(t *testing.T) {
	r := newSource(110)
	for range 3000 {
		b := someBucket(r)
		now := min(b.At+r.Intn(30), 99999)
		at := afterTicks(b, now-b.At)
		for _, n := range []int{0, 1, at.Level - 1, at.Level, at.Level + 1, r.Intn(50), 99999, 100000, tooBig} {
			if n < 0 {
				continue
			}
			want := at
			if n <= at.Level {
				want.Level -= n
			}
			got, ok := impl.BucketTake(b, now, n)
			if got != want || ok != (n <= at.Level) {
				t.Fatalf("BucketTake of %#v, %d and %d is %#v %#v", b, now, n, got, ok)
			}
			// Taken in two parts at the same tick it is the same.
			if part := r.Intn(min(n, 100000) + 1); ok {
				first, firstOk := impl.BucketTake(b, now, part)
				second, secondOk := impl.BucketTake(first, now, n-part)
				if !firstOk || !secondOk || second != got {
					t.Fatalf("BucketTake of %#v in %d and %d is %#v", b, part, n-part, second)
				}
			}
		}
	}
}

func TestP41AtTheEdges(t *testing.T) {
	full := impl.Bucket{Level: 40, Most: 40, Rate: 8, At: 5}
	cases := []struct {
		b      impl.Bucket
		now, n int
		want   impl.Bucket
		ok     bool
	}{
		{full, 5, 40, impl.Bucket{Level: 0, Most: 40, Rate: 8, At: 5}, true},
		{full, 5, 41, full, false},
		{full, 9, 40, impl.Bucket{Level: 0, Most: 40, Rate: 8, At: 9}, true},
		{full, 9, 41, impl.Bucket{Level: 40, Most: 40, Rate: 8, At: 9}, false},
		{full, 9, 0, impl.Bucket{Level: 40, Most: 40, Rate: 8, At: 9}, true},
		{full, 4, 0, impl.Bucket{}, false},
		{full, 4, 1, impl.Bucket{}, false},
		{full, -1, 1, impl.Bucket{}, false},
		{full, tooSmall, 1, impl.Bucket{}, false},
		{full, 5, -1, impl.Bucket{}, false},
		{full, 5, tooSmall, impl.Bucket{}, false},
		{full, 99999, 1, impl.Bucket{Level: 39, Most: 40, Rate: 8, At: 99999}, true},
		{full, 100000, 1, impl.Bucket{}, false},
		{full, tooBig, 1, impl.Bucket{}, false},
		{impl.Bucket{}, 0, 0, impl.Bucket{}, true},
		{impl.Bucket{}, 0, 1, impl.Bucket{}, false},
		{impl.Bucket{Most: 0, Rate: 9}, 100, 0, impl.Bucket{Rate: 9, At: 100}, true},
		{impl.Bucket{Most: 0, Rate: 9}, 100, 1, impl.Bucket{Rate: 9, At: 100}, false},
		{impl.Bucket{Most: 9, Level: 3}, 100, 3, impl.Bucket{Most: 9, At: 100}, true},
		{impl.Bucket{Most: 9, Level: 3}, 100, 4, impl.Bucket{Most: 9, Level: 3, At: 100}, false},
		{impl.Bucket{Most: 99999, Rate: 99999}, 99999, 99999, impl.Bucket{Most: 99999, Rate: 99999, At: 99999}, true},
	}
	for _, c := range cases {
		if got, ok := impl.BucketTake(c.b, c.now, c.n); got != c.want || ok != c.ok {
			t.Errorf("BucketTake of %#v, %d and %d is %#v %#v", c.b, c.now, c.n, got, ok)
		}
	}
}

func TestP42WaitingAWhileAndAWhileMore(t *testing.T) {
	r := newSource(111)
	for range 3000 {
		b := someBucket(r)
		later := min(b.At+r.Intn(60), 99999)
		between := b.At + r.Intn(later-b.At+1)
		got := impl.BucketAt(b, later)
		if want := afterTicks(b, later-b.At); got != want {
			t.Fatalf("BucketAt of %#v and %d is %#v", b, later, got)
		}
		if both := impl.BucketAt(impl.BucketAt(b, between), later); both != got {
			t.Fatalf("BucketAt of %#v, %d and then %d is %#v", b, between, later, both)
		}
	}
}

// A tick that is earlier, the same one, and ticks that are none.
func TestP42AtTheEdges(t *testing.T) {
	b := impl.Bucket{Level: 1, Most: 20, Rate: 3, At: 50}
	for _, now := range []int{0, 1, 49, 50} {
		if got := impl.BucketAt(b, now); got != b {
			t.Errorf("BucketAt of %d is %#v", now, got)
		}
	}
	for _, now := range []int{-1, -50, 100000, tooBig, tooSmall} {
		if got := impl.BucketAt(b, now); got != (impl.Bucket{}) {
			t.Errorf("BucketAt of %d is %#v", now, got)
		}
	}
	for now, level := range map[int]int{51: 4, 52: 7, 55: 16, 56: 19, 57: 20, 58: 20, 99999: 20} {
		if got := impl.BucketAt(b, now); got != (impl.Bucket{Level: level, Most: 20, Rate: 3, At: now}) {
			t.Errorf("BucketAt of %d is %#v", now, got)
		}
	}
	for _, b := range edgeBuckets() {
		for _, now := range []int{0, 2, 3, 4, 99998, 99999} {
			want := b
			if now > b.At {
				want = afterTicks(b, now-b.At)
			}
			if got := impl.BucketAt(b, now); got != want {
				t.Errorf("BucketAt of %#v and %d is %#v", b, now, got)
			}
		}
	}
}

// wantWait counts ticks until there is so much; -1, if that is never.
func wantWait(b impl.Bucket, now int, n int) int {
	b = afterTicks(b, now-b.At)
	for ticks := 0; ticks <= 100000; ticks++ {
		if b.Level >= n {
			return ticks
		}
		if b.Level == b.Most || b.Rate == 0 {
			return -1
		}
		b = afterTicks(b, 1)
	}
	return -1
}

func TestP43AsSoonAsOneHasWaitedSoLong(t *testing.T) {
	r := newSource(112)
	for range 3000 {
		b := someBucket(r)
		now := min(b.At+r.Intn(20), 99999)
		n := []int{0, 1, b.Level, b.Level + 1, b.Most, b.Most + 1, r.Intn(b.Most + 1), r.Intn(100000)}[r.Intn(8)]
		wait := impl.BucketWait(b, now, n)
		if want := wantWait(b, now, n); wait != want {
			t.Fatalf("BucketWait of %#v, %d and %d is %d, not %d", b, now, n, wait, want)
		}
		if wait < 0 || now+wait > 99999 {
			continue
		}
		if _, ok := impl.BucketTake(b, now+wait, n); !ok {
			t.Fatalf("BucketTake of %#v behind %d ticks is false", b, wait)
		}
		if _, ok := impl.BucketTake(b, now+wait-1, n); wait > 0 && ok {
			t.Fatalf("BucketTake of %#v behind %d ticks less one is true", b, wait)
		}
	}
}

func TestP43AtTheEdges(t *testing.T) {
	b := impl.Bucket{Level: 1, Most: 20, Rate: 3, At: 50}
	cases := []struct {
		b            impl.Bucket
		now, n, want int
	}{
		{b, 50, 0, 0}, {b, 50, 1, 0}, {b, 50, 2, 1}, {b, 50, 4, 1}, {b, 50, 5, 2}, {b, 50, 19, 6}, {b, 50, 20, 7}, {b, 50, 21, -1}, {b, 50, 99999, -1}, {b, 50, tooBig, -1},
		{b, 51, 4, 0}, {b, 51, 5, 1}, {b, 56, 20, 1}, {b, 57, 20, 0}, {b, 57, 21, -1}, {b, 99999, 20, 0}, {b, 99999, 21, -1},
		{b, 49, 0, -1}, {b, 0, 0, -1}, {b, -1, 0, -1}, {b, tooSmall, 0, -1}, {b, 100000, 0, -1}, {b, tooBig, 0, -1}, {b, 50, -1, -1}, {b, 50, tooSmall, -1},
		{impl.Bucket{Level: 5, Most: 20}, 0, 5, 0}, {impl.Bucket{Level: 5, Most: 20}, 0, 6, -1}, {impl.Bucket{Level: 5, Most: 20}, 99999, 6, -1}, {impl.Bucket{Level: 5, Most: 20}, 7, 0, 0},
		{impl.Bucket{Rate: 9}, 7, 0, 0}, {impl.Bucket{Rate: 9}, 7, 1, -1}, {impl.Bucket{}, 0, 0, 0}, {impl.Bucket{}, 0, 1, -1},
		{impl.Bucket{Level: 20, Most: 20, Rate: 3}, 0, 20, 0}, {impl.Bucket{Level: 20, Most: 20, Rate: 3}, 0, 21, -1},
		{impl.Bucket{Most: 99999, Rate: 1}, 0, 99999, 99999}, {impl.Bucket{Most: 99999, Rate: 99999}, 0, 99999, 1}, {impl.Bucket{Most: 99999, Rate: 99998}, 0, 99999, 2}, {impl.Bucket{Most: 99999, Rate: 99999}, 0, 1, 1},
		// How many ticks it takes is told also where there are not so many left.
		{impl.Bucket{Most: 20, Rate: 1, At: 99999}, 99999, 20, 20}, {impl.Bucket{Most: 20, Rate: 1}, 0, 20, 20},
	}
	for _, c := range cases {
		if got := impl.BucketWait(c.b, c.now, c.n); got != c.want {
			t.Errorf("BucketWait of %#v, %d and %d is %d, not %d", c.b, c.now, c.n, got, c.want)
		}
	}
}

// wantNextJob is the place of the first job that is worth most with its waiting.
func wantNextJob(list []impl.Job, now int) int {
	best := -1
	for place, job := range list {
		if now > 99999 || job.Worth < 0 || job.Worth > 99999 || job.Since < 0 || job.Since > now {
			return -1
		}
		if best < 0 || job.Worth-job.Since > list[best].Worth-list[best].Since {
			best = place
		}
	}
	return best
}

func TestP44WhoseTurnIsNext(t *testing.T) {
	r := newSource(113)
	for range 4000 {
		now := []int{0, 5, 99999, r.Intn(100000)}[r.Intn(4)]
		spread := []int{1, 3, 20, 99999}[r.Intn(4)]
		var list []impl.Job
		for range r.Intn(40) {
			list = append(list, impl.Job{Id: r.Intn(5) - 2, Worth: r.Intn(spread + 1), Since: now - r.Intn(min(now, spread)+1)})
		}
		got := impl.JobNext(list, now)
		if want := wantNextJob(list, now); got != want {
			t.Fatalf("JobNext of %#v and %d is %d, not %d", list, now, got, want)
		}
		for place, job := range list {
			ahead, best := job.Worth+now-job.Since, list[got].Worth+now-list[got].Since
			if ahead > best || place < got && ahead == best {
				t.Fatalf("JobNext of %#v and %d is %d, and not %d", list, now, got, place)
			}
		}
	}
}

// Each order of a few jobs, some of which are worth the same.
func TestP44EachOrder(t *testing.T) {
	var orders func(list []impl.Job, rest []impl.Job)
	orders = func(list []impl.Job, rest []impl.Job) {
		if got, want := impl.JobNext(list, 9), wantNextJob(list, 9); got != want {
			t.Fatalf("JobNext of %#v is %d, not %d", list, got, want)
		}
		for i, job := range rest {
			orders(append(slices.Clone(list), job), slices.Delete(slices.Clone(rest), i, i+1))
		}
	}
	orders(nil, []impl.Job{{Id: 1, Worth: 3, Since: 5}, {Id: 2, Worth: 1, Since: 3}, {Id: 3, Worth: 0, Since: 0}, {Id: 4, Worth: 9, Since: 9}, {Id: 5, Worth: 0, Since: 9}, {Id: 6, Worth: 8, Since: 9}, {Id: 7, Worth: 8, Since: 8}})
}

func TestP44AtTheEdges(t *testing.T) {
	cases := []struct {
		list      []impl.Job
		now, want int
	}{
		{nil, 9, -1}, {[]impl.Job{}, 0, -1}, {nil, 100000, -1}, {nil, -1, -1}, {nil, tooBig, -1}, {nil, tooSmall, -1},
		{[]impl.Job{{}}, 0, 0}, {[]impl.Job{{}}, 99999, 0}, {[]impl.Job{{}}, 100000, -1}, {[]impl.Job{{}}, tooBig, -1}, {[]impl.Job{{}}, -1, -1}, {[]impl.Job{{}}, tooSmall, -1}, {[]impl.Job{{Since: -1}}, -1, -1}, {[]impl.Job{{Since: tooSmall}}, tooSmall, -1},
		{[]impl.Job{{Worth: 99999}}, 9, 0}, {[]impl.Job{{Worth: 100000}}, 9, -1}, {[]impl.Job{{Worth: -1}}, 9, -1}, {[]impl.Job{{Worth: tooBig}}, 9, -1}, {[]impl.Job{{Worth: tooSmall}}, 9, -1},
		{[]impl.Job{{Since: 9}}, 9, 0}, {[]impl.Job{{Since: 10}}, 9, -1}, {[]impl.Job{{Since: -1}}, 9, -1}, {[]impl.Job{{Since: tooBig}}, 9, -1}, {[]impl.Job{{Since: tooSmall}}, 9, -1}, {[]impl.Job{{Since: 99999}}, 99999, 0}, {[]impl.Job{{Since: 100000}}, 100000, -1},
		{[]impl.Job{{Id: tooBig, Worth: 1}, {Id: tooSmall, Worth: 2}}, 9, 1}, {[]impl.Job{{Id: -1}, {Id: -1}}, 9, 0},
		{[]impl.Job{{Worth: 99999}, {Worth: 99999}, {Worth: 99999}}, 99999, 0}, {[]impl.Job{{Worth: 99998}, {Worth: 99999, Since: 1}, {Worth: 99999}}, 99999, 2}, {[]impl.Job{{Worth: 99999, Since: 99999}, {}}, 99999, 0}, {[]impl.Job{{Worth: 99998, Since: 99999}, {}}, 99999, 1},
	}
	for _, c := range cases {
		if got := impl.JobNext(c.list, c.now); got != c.want {
			t.Errorf("JobNext of %#v and %d is %d, not %d", c.list, c.now, got, c.want)
		}
	}
	// One that is wrong is enough, wherever it stands.
	for place := range 6 {
		for _, wrong := range []impl.Job{{Worth: -1}, {Worth: 100000}, {Since: -1}, {Since: 10}, {Worth: tooBig, Since: tooSmall}} {
			list := []impl.Job{{Worth: 3}, {Worth: 2}, {Worth: 9}, {Worth: 1}, {Worth: 4}, {Worth: 0}}
			list[place] = wrong
			if got := impl.JobNext(list, 9); got != -1 {
				t.Errorf("JobNext with %#v at %d is %d", wrong, place, got)
			}
		}
	}
}

// A list that is much longer than any server has.
func TestP44ManyJobs(t *testing.T) {
	list := make([]impl.Job, 200000)
	for place := range list {
		list[place] = impl.Job{Worth: place / 4}
	}
	if got := impl.JobNext(list, 9); got != 199996 {
		t.Errorf("JobNext of many is %d", got)
	}
	slices.Reverse(list)
	if got := impl.JobNext(list, 9); got != 0 {
		t.Errorf("JobNext of many, the greatest first, is %d", got)
	}
}
