package tests

import (
	"math/rand"
	"slices"
	"testing"

	"loop.example/wellhead/impl"
)

// samePool compares pools; the empty and the nil list are the same.
func samePool(a impl.Pool, b impl.Pool) bool {
	return a.Hand == b.Hand && slices.Equal(a.Frames, b.Frames)
}

// copyPool is a pool in memory of its own.
func copyPool(p impl.Pool) impl.Pool {
	return impl.Pool{Frames: slices.Clone(p.Frames), Hand: p.Hand}
}

// emptyPool has nothing in it.
func emptyPool() impl.Pool {
	return impl.Pool{Frames: make([]impl.Frame, 8)}
}

// framesOf is how many frames a house has.
func framesOf(p impl.Pool, house int) int {
	count := 0
	for _, frame := range p.Frames {
		if frame.Edition != 0 && frame.House == house {
			count++
		}
	}
	return count
}

// frameMayBe says whether a house, an edition and a block may be, as chapter 10 has it.
func frameMayBe(house int, edition int, block int) bool {
	return (house == 0 || house == 1) && edition >= 1 && edition <= 99999 && block >= 0 && block <= 23
}

// poolHasForm says whether a pool is as chapter 10 has it.
func poolHasForm(p impl.Pool) bool {
	if len(p.Frames) != 8 || p.Hand < 0 || p.Hand > 7 || framesOf(p, 0) > 5 || framesOf(p, 1) > 5 {
		return false
	}
	for i, frame := range p.Frames {
		if frame == (impl.Frame{}) {
			continue
		}
		if !frameMayBe(frame.House, frame.Edition, frame.Block) || frame.Held < 0 || frame.Held > 99999 {
			return false
		}
		for j, other := range p.Frames {
			if i != j && other.Edition == frame.Edition && other.Block == frame.Block {
				return false
			}
		}
	}
	return true
}

// wantPoolTake is what PoolTake has to answer.
func wantPoolTake(p impl.Pool, house int, edition int, block int) (impl.Pool, int, int) {
	if !poolHasForm(p) {
		return impl.Pool{}, 0, 3
	}
	if !frameMayBe(house, edition, block) {
		return p, 0, 3
	}
	next := copyPool(p)
	for place, frame := range p.Frames {
		if frame.Edition == edition && frame.Block == block {
			if frame.House != house || frame.Held == 99999 {
				return p, 0, 3
			}
			next.Frames[place].Held++
			next.Frames[place].Used = true
			return next, place, 0
		}
	}
	has := framesOf(p, house)
	for look := range 17 {
		place := (p.Hand + look) % 8
		frame := next.Frames[place]
		if has == 5 && frame.Edition == 0 {
			continue
		}
		if has == 5 && frame.House != house {
			continue
		}
		if frame.Held != 0 {
			continue
		}
		if frame.Used {
			next.Frames[place].Used = false
			continue
		}
		next.Frames[place] = impl.Frame{House: house, Edition: edition, Block: block, Held: 1, Used: true}
		next.Hand = (place + 1) % 8
		return next, place, 1
	}
	return p, 0, 2
}

// somePool draws a pool that is ok; most of its frames are often held, or used.
func somePool(r *rand.Rand) impl.Pool {
	p := emptyPool()
	p.Hand = r.Intn(8)
	free, held, used := r.Intn(4), r.Intn(5), r.Intn(5)
	for place := range p.Frames {
		frame := impl.Frame{House: r.Intn(2), Edition: 1 + r.Intn(4), Block: r.Intn(6), Used: r.Intn(4) < used}
		if r.Intn(4) < held {
			frame.Held = []int{1, 1, 2, 99998, 99999}[r.Intn(5)]
		}
		if r.Intn(20) == 0 {
			frame.Edition, frame.Block = 99999, 23
		}
		p.Frames[place] = frame
		if r.Intn(4) < free || !poolHasForm(p) {
			p.Frames[place] = impl.Frame{}
		}
	}
	return p
}

// heldPool has all frames held: five of a house, and three of the other.
func heldPool(house int) impl.Pool {
	p := emptyPool()
	for place := range p.Frames {
		p.Frames[place] = impl.Frame{House: house, Edition: 3, Block: place, Held: 1, Used: place%2 == 0}
		if place >= 5 {
			p.Frames[place].House, p.Frames[place].Edition = 1-house, 4
		}
	}
	return p
}

// quietPool has five frames of house 0 and two of house 1, none held, none used, and one that is empty.
func quietPool() impl.Pool {
	p := emptyPool()
	for place := range 7 {
		p.Frames[place] = impl.Frame{House: place / 5, Edition: 1 + place/5, Block: place}
	}
	return p
}

// turnedPool is quietPool with one change.
func turnedPool(change func(p *impl.Pool)) impl.Pool {
	p := quietPool()
	change(&p)
	return p
}

// badPools are not ok, each by one thing alone.
func badPools() []impl.Pool {
	pools := []impl.Pool{{}, {Hand: 1}, {Frames: make([]impl.Frame, 1)}, {Frames: make([]impl.Frame, 7)}, {Frames: make([]impl.Frame, 9)}, {Frames: make([]impl.Frame, 100)}}
	for _, hand := range []int{-1, 8, 9, -8, tooBig, tooSmall} {
		pools = append(pools, turnedPool(func(p *impl.Pool) { p.Hand = hand }), impl.Pool{Frames: make([]impl.Frame, 8), Hand: hand})
	}
	for _, house := range []int{-1, 2, 3, tooBig, tooSmall} {
		pools = append(pools, turnedPool(func(p *impl.Pool) { p.Frames[2].House = house }))
	}
	for _, edition := range []int{-1, 100000, tooBig, tooSmall} {
		pools = append(pools, turnedPool(func(p *impl.Pool) { p.Frames[2].Edition = edition }))
	}
	for _, block := range []int{-1, 24, 25, tooBig, tooSmall} {
		pools = append(pools, turnedPool(func(p *impl.Pool) { p.Frames[2].Block = block }))
	}
	for _, held := range []int{-1, 100000, tooBig, tooSmall} {
		pools = append(pools, turnedPool(func(p *impl.Pool) { p.Frames[2].Held = held }))
	}
	for _, frame := range []impl.Frame{{House: 1}, {House: -1}, {Block: 1}, {Block: 23}, {Held: 1}, {Held: 99999}, {Used: true}, {House: 1, Block: 2, Held: 3, Used: true}} {
		pools = append(pools, turnedPool(func(p *impl.Pool) { p.Frames[7] = frame }))
	}
	return append(pools,
		turnedPool(func(p *impl.Pool) { p.Frames[7] = impl.Frame{House: 1, Edition: 1, Block: 0} }),
		turnedPool(func(p *impl.Pool) { p.Frames[7] = p.Frames[6] }),
		turnedPool(func(p *impl.Pool) { p.Frames[6].Block = p.Frames[5].Block }),
		turnedPool(func(p *impl.Pool) { p.Frames[7] = impl.Frame{House: 0, Edition: 1, Block: 7} }),
		turnedPool(func(p *impl.Pool) { p.Frames[5].House = 0 }),
		turnedPool(func(p *impl.Pool) {
			for place := range p.Frames {
				p.Frames[place] = impl.Frame{House: 1, Edition: 1, Block: place}
			}
		}),
		impl.Pool{Frames: quietPool().Frames[:7]}, impl.Pool{Frames: append(quietPool().Frames, impl.Frame{})},
	)
}

// edgePools are ok, each at a limit.
func edgePools() []impl.Pool {
	return []impl.Pool{
		emptyPool(), {Frames: make([]impl.Frame, 8), Hand: 7}, quietPool(), heldPool(0), heldPool(1),
		turnedPool(func(p *impl.Pool) {
			p.Frames[2] = impl.Frame{House: 0, Edition: 99999, Block: 23, Held: 99999, Used: true}
		}),
		turnedPool(func(p *impl.Pool) { p.Frames[7] = impl.Frame{House: 1, Edition: 1, Block: 23} }),
		turnedPool(func(p *impl.Pool) { p.Frames[7] = impl.Frame{House: 1, Edition: 3, Block: 0} }),
		turnedPool(func(p *impl.Pool) { p.Hand = 7 }),
	}
}

// checkPoolTake takes a block, and is what there is then.
func checkPoolTake(t *testing.T, p impl.Pool, house int, edition int, block int) (impl.Pool, int, int) {
	t.Helper()
	want, wantPlace, wantCode := wantPoolTake(p, house, edition, block)
	got, place, code := impl.PoolTake(p, house, edition, block)
	if place != wantPlace || code != wantCode || !samePool(got, want) {
		t.Fatalf("PoolTake of %#v, %d %d %d is %#v %d %d, not %#v %d %d", p, house, edition, block, got, place, code, want, wantPlace, wantCode)
	}
	return got, place, code
}

// checkPool holds all that a pool answers against what chapter 10 says, but for PoolTake; it may be ok or not.
func checkPool(t *testing.T, p impl.Pool) {
	t.Helper()
	ok := poolHasForm(p)
	if got := impl.PoolOk(p); got != ok {
		t.Fatalf("PoolOk of %#v is %#v", p, got)
	}
	for _, house := range []int{-1, 0, 1, 2, tooBig, tooSmall} {
		if got := impl.PoolOf(p, house); ok && got != framesOf(p, house) || !ok && got != 0 {
			t.Fatalf("PoolOf of %#v and %d is %d", p, house, got)
		}
	}
	for _, place := range []int{-1, 0, 1, 2, 3, 4, 5, 6, 7, 8, 9, tooBig, tooSmall} {
		checkLet(t, p, ok, place)
	}
	for _, edition := range []int{-1, 0, 1, 2, 3, 4, 5, 99999, 100000, tooBig, tooSmall} {
		want := impl.Pool{}
		if ok {
			want = copyPool(p)
			for place, frame := range p.Frames {
				if frame.Edition == edition && frame.Held == 0 {
					want.Frames[place] = impl.Frame{}
				}
			}
		}
		if got := impl.PoolDrop(p, edition); !samePool(got, want) {
			t.Fatalf("PoolDrop of %#v and %d is %#v", p, edition, got)
		}
	}
}

// checkLet lets a frame go.
func checkLet(t *testing.T, p impl.Pool, ok bool, place int) {
	t.Helper()
	want, wantOk := impl.Pool{}, false
	if ok {
		want = copyPool(p)
		wantOk = place >= 0 && place < 8 && p.Frames[place].Held > 0
	}
	if wantOk {
		want.Frames[place].Held--
	}
	if got, let := impl.PoolLet(p, place); let != wantOk || !samePool(got, want) {
		t.Fatalf("PoolLet of %#v and %d is %#v %#v", p, place, got, let)
	}
}

// mustLet lets a frame go that has to be held.
func mustLet(t *testing.T, p impl.Pool, place int) impl.Pool {
	t.Helper()
	next, ok := impl.PoolLet(p, place)
	if !ok {
		t.Fatalf("PoolLet of %#v and %d is false", p, place)
	}
	return next
}

func TestPoolOk(t *testing.T) {
	for i, p := range edgePools() {
		if !impl.PoolOk(p) {
			t.Errorf("pool %d is ok: %#v", i, p)
		}
		checkPool(t, p)
	}
	for i, p := range badPools() {
		if impl.PoolOk(p) {
			t.Errorf("pool %d is not ok: %#v", i, p)
		}
		checkPool(t, p)
	}
	r := newSource(100)
	for range 1000 {
		checkPool(t, somePool(r))
	}
}

// Pools of which a frame or two are others.
func TestPoolOkOfSpoiltOnes(t *testing.T) {
	r := newSource(101)
	numbers := []int{-1, 0, 1, 2, 5, 23, 24, 99999, 100000, tooBig, tooSmall}
	for range 5000 {
		p := somePool(r)
		for range 1 + r.Intn(2) {
			i, j, number := r.Intn(8), r.Intn(8), numbers[r.Intn(len(numbers))]
			switch r.Intn(7) {
			case 0:
				p.Frames[i].House = number
			case 1:
				p.Frames[i].Edition = number
			case 2:
				p.Frames[i].Block = number
			case 3:
				p.Frames[i].Held = number
			case 4:
				p.Frames[i].Used = !p.Frames[i].Used
			case 5:
				p.Frames[i].House = 1 - p.Frames[i].House
			default:
				p.Frames[i] = p.Frames[j]
			}
		}
		if got := impl.PoolOk(p); got != poolHasForm(p) {
			t.Fatalf("PoolOk of %#v is %#v", p, got)
		}
	}
}

func TestPoolsThatAreNotOk(t *testing.T) {
	for _, p := range badPools() {
		for _, call := range []impl.Frame{{House: 0, Edition: 1, Block: 0}, {House: 1, Edition: 9, Block: 9}, {House: 5, Edition: 0, Block: -1}} {
			if got, place, code := impl.PoolTake(p, call.House, call.Edition, call.Block); code != impl.PoolBad || place != 0 || !samePool(got, impl.Pool{}) {
				t.Fatalf("PoolTake of %#v is %#v %d %d", p, got, place, code)
			}
		}
	}
}

func TestP35ABlockThatIsTakenIsThere(t *testing.T) {
	r := newSource(102)
	codes := map[int]int{}
	for range 12000 {
		p := somePool(r)
		house, edition, block := r.Intn(2), 1+r.Intn(5), r.Intn(7)
		next, place, code := checkPoolTake(t, p, house, edition, block)
		codes[code]++
		if code > impl.PoolMiss {
			continue
		}
		frame := next.Frames[place]
		if frame.House != house || frame.Edition != edition || frame.Block != block || frame.Held < 1 || !frame.Used || !impl.PoolOk(next) {
			t.Fatalf("PoolTake of %#v, %d %d %d has %#v", p, house, edition, block, next)
		}
		for i, was := range p.Frames {
			now := next.Frames[i]
			if was.Held > 0 && (now.House != was.House || now.Edition != was.Edition || now.Block != was.Block || now.Held < was.Held) {
				t.Fatalf("PoolTake of %#v, %d %d %d lets go: %#v", p, house, edition, block, next)
			}
		}
	}
	for code := range 4 {
		if codes[code] < 100 {
			t.Errorf("the code %d came %d times", code, codes[code])
		}
	}
}

func TestP35WhatMayNotBeTaken(t *testing.T) {
	numbers := []int{-1, tooBig, tooSmall}
	for _, p := range edgePools() {
		var calls []impl.Frame
		for _, number := range append(numbers, 2, 3) {
			calls = append(calls, impl.Frame{House: number, Edition: 1, Block: 0})
		}
		for _, number := range append(numbers, 0, 100000) {
			calls = append(calls, impl.Frame{House: 0, Edition: number, Block: 0})
		}
		for _, number := range append(numbers, 24, 25) {
			calls = append(calls, impl.Frame{House: 0, Edition: 1, Block: number})
		}
		for _, call := range calls {
			if _, _, code := checkPoolTake(t, p, call.House, call.Edition, call.Block); code != impl.PoolBad {
				t.Errorf("PoolTake of %#v is %d", call, code)
			}
		}
	}
	if _, place, code := checkPoolTake(t, emptyPool(), 1, 99999, 23); place != 0 || code != impl.PoolMiss {
		t.Errorf("PoolTake at the limits is %d %d", place, code)
	}
}

// A pool that is full is one for what may not be, too.
func TestP35CodesInTheirOrder(t *testing.T) {
	p := heldPool(0)
	for _, call := range []impl.Frame{{House: 2, Edition: 9, Block: 0}, {House: 0, Edition: 0, Block: 0}, {House: 1, Edition: 9, Block: 24}, {House: 1, Edition: 3, Block: 0}, {House: 0, Edition: 4, Block: 5}} {
		if _, _, code := checkPoolTake(t, p, call.House, call.Edition, call.Block); code != impl.PoolBad {
			t.Errorf("PoolTake of %#v is %d", call, code)
		}
	}
	if _, place, code := checkPoolTake(t, p, 1, 4, 5); place != 5 || code != impl.PoolHit {
		t.Errorf("PoolTake of what is there is %d %d", place, code)
	}
}

// The hand goes round, and what was used stays once more.
func TestP35TheHandGoesRound(t *testing.T) {
	cases := []struct {
		what        string
		change      func(p *impl.Pool)
		house       int
		place, hand int
		used        int // how many are used then
	}{
		{"the empty one at the end", func(p *impl.Pool) { p.Hand = 7 }, 1, 7, 0, 1},
		{"the first of another house", func(p *impl.Pool) {}, 1, 0, 1, 1},
		{"the first behind the hand", func(p *impl.Pool) { p.Hand = 3 }, 1, 3, 4, 1},
		{"an own one alone, with PoolHouse", func(p *impl.Pool) { p.Hand = 5 }, 0, 0, 1, 1},
		{"an own one alone, with PoolHouse, from the empty one on", func(p *impl.Pool) { p.Hand = 7 }, 0, 0, 1, 1},
		{"one that is used is passed over", func(p *impl.Pool) { p.Frames[0].Used = true }, 1, 1, 2, 1},
		{"one that is used behind stays so", func(p *impl.Pool) { p.Frames[0].Used, p.Frames[2].Used = true, true }, 1, 1, 2, 2},
		{"one that is held is passed over", func(p *impl.Pool) { p.Frames[0].Held = 1 }, 1, 1, 2, 1},
		{"one that is held and used stays both", func(p *impl.Pool) { p.Frames[0].Held, p.Frames[0].Used = 1, true }, 1, 1, 2, 2},
		{"one of another house that is used stays so, with PoolHouse", func(p *impl.Pool) { p.Hand, p.Frames[5].Used, p.Frames[6].Used = 5, true, true }, 0, 0, 1, 3},
		{"all own are used", func(p *impl.Pool) {
			for place := range 5 {
				p.Frames[place].Used = true
			}
			p.Hand = 2
		}, 0, 2, 3, 1},
		{"all are used or held", func(p *impl.Pool) {
			for place := range 7 {
				p.Frames[place].Used = true
			}
			p.Frames[7] = impl.Frame{House: 1, Edition: 9, Block: 1, Held: 1, Used: true}
			p.Frames[4].Held = 1
			p.Hand = 4
		}, 1, 5, 6, 3},
		{"only the last one that is looked at, and that is used", func(p *impl.Pool) {
			for place := range 7 {
				p.Frames[place].Held = 1
			}
			p.Frames[7] = impl.Frame{House: 1, Edition: 9, Block: 1, Used: true}
		}, 1, 7, 0, 1},
	}
	for _, c := range cases {
		p := turnedPool(c.change)
		next, place, code := checkPoolTake(t, p, c.house, 50, 3)
		used := 0
		for _, frame := range next.Frames {
			if frame.Used {
				used++
			}
		}
		if place != c.place || code != impl.PoolMiss || next.Hand != c.hand || used != c.used {
			t.Errorf("%s: %d %d, the hand at %d, %d used", c.what, place, code, next.Hand, used)
		}
	}
}

func TestP36WhatWasTakenIsFoundAgain(t *testing.T) {
	r := newSource(103)
	for range 2000 {
		p := somePool(r)
		house, edition, block := r.Intn(2), 1+r.Intn(5), r.Intn(7)
		next, place, code := impl.PoolTake(p, house, edition, block)
		if code > impl.PoolMiss {
			continue
		}
		again, samePlace, code := checkPoolTake(t, next, house, edition, block)
		if next.Frames[place].Held == 99999 {
			if code != impl.PoolBad || samePlace != 0 || !samePool(again, next) {
				t.Fatalf("PoolTake of what is held CountMax times is %#v %d %d", again, samePlace, code)
			}
			continue
		}
		if code != impl.PoolHit || samePlace != place || again.Frames[place].Held != next.Frames[place].Held+1 || again.Hand != next.Hand {
			t.Fatalf("PoolTake again is %#v %d %d", again, samePlace, code)
		}
		if back := mustLet(t, again, place); !samePool(back, next) {
			t.Fatalf("PoolLet leads to %#v, not %#v", back, next)
		}
	}
}

// What is held is found again whatever else is taken, by whichever house.
func TestP36WhatIsHeldStays(t *testing.T) {
	r := newSource(104)
	for range 100 {
		p, place, _ := impl.PoolTake(somePool(r), 1, 7, 20)
		if p.Frames[place].Edition != 7 {
			continue
		}
		for range 60 {
			next, taken, code := checkPoolTake(t, p, r.Intn(2), 1+r.Intn(4), r.Intn(24))
			if code <= impl.PoolMiss {
				next = mustLet(t, next, taken)
			}
			p = next
			if _, again, code := impl.PoolTake(p, 1, 7, 20); code != impl.PoolHit || again != place {
				t.Fatalf("what is held in %#v is %d %d", p, again, code)
			}
		}
	}
}

func TestP36HeldCountMaxTimes(t *testing.T) {
	p := turnedPool(func(p *impl.Pool) { p.Frames[5].Held = 99998 })
	p, place, code := checkPoolTake(t, p, 1, 2, 5)
	if place != 5 || code != impl.PoolHit || p.Frames[5].Held != 99999 {
		t.Fatalf("PoolTake for the last time is %#v %d %d", p, place, code)
	}
	if _, _, code := checkPoolTake(t, p, 1, 2, 5); code != impl.PoolBad {
		t.Errorf("PoolTake once more is %d", code)
	}
	if _, place, code := checkPoolTake(t, mustLet(t, p, 5), 1, 2, 5); place != 5 || code != impl.PoolHit {
		t.Errorf("PoolTake behind PoolLet is %d %d", place, code)
	}
}

func TestP37AFullPool(t *testing.T) {
	for house := range 2 {
		p := heldPool(house)
		for _, asks := range []int{0, 1} {
			for hand := range 8 {
				p.Hand = hand
				if got, place, code := checkPoolTake(t, p, asks, 9, 0); code != impl.PoolFull || place != 0 || !samePool(got, p) {
					t.Errorf("PoolTake of what is all held is %#v %d %d", got, place, code)
				}
			}
		}
		// One that is let go can be taken, but by a house with PoolHouse only if it is its own.
		for place := range 8 {
			free := mustLet(t, p, place)
			own := free.Frames[place].House == house
			if _, got, code := checkPoolTake(t, free, house, 9, 0); own && (got != place || code != impl.PoolMiss) || !own && code != impl.PoolFull {
				t.Errorf("frame %d for house %d: %d %d", place, house, got, code)
			}
			if _, got, code := checkPoolTake(t, free, 1-house, 9, 0); got != place || code != impl.PoolMiss {
				t.Errorf("frame %d for house %d: %d %d", place, 1-house, got, code)
			}
		}
	}
}

// A house with PoolHouse frames, all of them held, gets none, though others are empty, or of the other house and not held.
func TestP37AllFramesOfOneHouse(t *testing.T) {
	for hand := range 8 {
		p := turnedPool(func(p *impl.Pool) {
			p.Hand = hand
			p.Frames[5].Used = true
			for place := range 5 {
				p.Frames[place].Held = 1
			}
		})
		if got, place, code := checkPoolTake(t, p, 0, 9, 0); code != impl.PoolFull || place != 0 || !samePool(got, p) {
			t.Errorf("PoolTake of house 0 is %#v %d %d", got, place, code)
		}
		if _, _, code := checkPoolTake(t, p, 1, 9, 0); code != impl.PoolMiss {
			t.Errorf("PoolTake of house 1 is %d", code)
		}
	}
	r := newSource(105)
	for range 6000 {
		p := somePool(r)
		house := r.Intn(2)
		_, _, code := checkPoolTake(t, p, house, 9, 0)
		may := func(frame impl.Frame) bool {
			return frame.Held == 0 && (framesOf(p, house) < 5 || frame.Edition != 0 && frame.House == house)
		}
		if (code == impl.PoolFull) == slices.ContainsFunc(p.Frames, may) {
			t.Fatalf("PoolTake of %#v is %d", p, code)
		}
	}
}

func TestP38AHouseCannotDriveOutAnother(t *testing.T) {
	r := newSource(106)
	for range 400 {
		p := somePool(r)
		house := r.Intn(2)
		others, may := framesOf(p, 1-house), 5-framesOf(p, house)
		for range 40 {
			next, place, code := checkPoolTake(t, p, house, 10+r.Intn(3), r.Intn(24))
			if code <= impl.PoolMiss {
				next = mustLet(t, next, place)
			}
			p = next
			if framesOf(p, house) > 5 || others-framesOf(p, 1-house) > may {
				t.Fatalf("house %d has driven out %d of the other, not %d at most", house, others-framesOf(p, 1-house), may)
			}
		}
	}
}

// A house without frames drives out two of five, for PoolMax less PoolHouse are free.
func TestP38FromNothing(t *testing.T) {
	for house := range 2 {
		p := emptyPool()
		for block := range 20 {
			next, place, code := checkPoolTake(t, p, house, 1, block)
			p = mustLet(t, next, place)
			if code != impl.PoolMiss || framesOf(p, house) != min(block+1, 5) {
				t.Fatalf("block %d: %d, %d frames", block, code, framesOf(p, house))
			}
		}
		for block := range 20 {
			next, place, code := checkPoolTake(t, p, 1-house, 2, block)
			p = mustLet(t, next, place)
			if code != impl.PoolMiss || framesOf(p, 1-house) > 5 || framesOf(p, house) < 3 {
				t.Fatalf("block %d: %d, %#v", block, code, p)
			}
		}
		if framesOf(p, house) != 3 || framesOf(p, 1-house) != 5 {
			t.Errorf("at the end there is %#v", p)
		}
	}
}

// An edition may be of a house in one frame and of another one in another; only the frame that has the block counts.
func TestP38AFrameOfAnotherHouse(t *testing.T) {
	p := turnedPool(func(p *impl.Pool) { p.Frames[7] = impl.Frame{House: 1, Edition: 1, Block: 20} })
	if _, _, code := checkPoolTake(t, p, 1, 1, 0); code != impl.PoolBad {
		t.Errorf("PoolTake of what is of another house is %d", code)
	}
	if _, place, code := checkPoolTake(t, p, 1, 1, 20); place != 7 || code != impl.PoolHit {
		t.Errorf("PoolTake of its own is %d %d", place, code)
	}
	if _, place, code := checkPoolTake(t, p, 1, 1, 21); place != 0 || code != impl.PoolMiss {
		t.Errorf("PoolTake of a block that is not there is %d %d", place, code)
	}
}

func TestP39WhatIsDroppedIsGone(t *testing.T) {
	p := turnedPool(func(p *impl.Pool) {
		p.Hand = 6
		p.Frames[1].Held, p.Frames[1].Used = 2, true
		p.Frames[3].Used = true
		p.Frames[7] = impl.Frame{House: 1, Edition: 1, Block: 9, Used: true}
	})
	want := copyPool(p)
	for _, place := range []int{0, 2, 3, 4, 7} {
		want.Frames[place] = impl.Frame{}
	}
	if got := impl.PoolDrop(p, 1); !samePool(got, want) || !impl.PoolOk(got) {
		t.Errorf("PoolDrop is %#v", got)
	}
	for _, edition := range []int{0, 3, -1, 100000, tooBig, tooSmall} {
		if got := impl.PoolDrop(p, edition); !samePool(got, p) {
			t.Errorf("PoolDrop of %d is %#v", edition, got)
		}
	}
	// What was held goes when it is let go and dropped again.
	late := impl.PoolDrop(mustLet(t, mustLet(t, want, 1), 1), 1)
	if framesOf(late, 0) != 0 || framesOf(late, 1) != 2 || late.Hand != 6 {
		t.Errorf("PoolDrop of what was held is %#v", late)
	}
}

func TestP40WhatIsNotHeldCannotBeLetGo(t *testing.T) {
	p := turnedPool(func(p *impl.Pool) { p.Frames[3].Held, p.Frames[4].Used = 2, true })
	for place := -2; place <= 10; place++ {
		if _, ok := impl.PoolLet(p, place); ok != (place == 3) {
			t.Errorf("PoolLet of %d is %#v", place, ok)
		}
	}
	once := mustLet(t, p, 3)
	twice := mustLet(t, once, 3)
	if got, ok := impl.PoolLet(twice, 3); ok || !samePool(got, twice) || twice.Frames[3].Held != 0 || once.Frames[3].Held != 1 {
		t.Errorf("PoolLet for the third time is %#v %#v", got, ok)
	}
	for place := range 8 {
		if _, ok := impl.PoolLet(emptyPool(), place); ok {
			t.Errorf("PoolLet of the empty frame %d", place)
		}
	}
}

// All that may be done, in many orders, by what chapter 10 says of it.
func TestP35ToP40ManySteps(t *testing.T) {
	r := newSource(107)
	for range 60 {
		p := emptyPool()
		for range 120 {
			switch r.Intn(8) {
			case 0:
				p = impl.PoolDrop(p, 1+r.Intn(4))
			case 1, 2, 3:
				p, _ = impl.PoolLet(p, r.Intn(8))
			default:
				edition := 1 + r.Intn(4)
				p, _, _ = checkPoolTake(t, p, edition%2, edition, r.Intn(5))
			}
			checkPool(t, p)
			if !impl.PoolOk(p) {
				t.Fatalf("the pool is not ok: %#v", p)
			}
		}
	}
}
