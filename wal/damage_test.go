package wal_test

import (
	"fmt"
	"maps"
	"math/rand"
	"testing"

	"sexton/api"
	"sexton/disk"
	"sexton/ghost"
	"sexton/slot"
	"sexton/wal"
)

// sectorsOf returns the sectors of a slot: its record's, and those of frame 0 and of frame 1.
func sectorsOf(i int) [5]int {
	return [...]int{recordAt(i), frameAt(i, 0), frameAt(i, 0) + 1, frameAt(i, 1), frameAt(i, 1) + 1}
}

// hurts are ways of hurting a sector that can be detected, whatever it holds.
var hurts = []func(t *testing.T, d *disk.Disk, sector int){
	func(t *testing.T, d *disk.Disk, sector int) { want(t, "lose", d.Lose(sector), api.OK) },
	func(t *testing.T, d *disk.Disk, sector int) { want(t, "flip", d.Flip(sector, 0), api.OK) },
	func(t *testing.T, d *disk.Disk, sector int) { want(t, "flip", d.Flip(sector, 511), api.OK) },
	func(t *testing.T, d *disk.Disk, sector int) { want(t, "flip", d.Flip(sector, 170+sector), api.OK) },
}

// wantSeen wants all that is hurt to be detectable.
func wantSeen(t *testing.T, d *disk.Disk, replica int) {
	t.Helper()
	if ok, e := ghost.Seen(d, replica); !ok || e != api.OK {
		t.Errorf("Seen: %v, %d", ok, e)
	}
}

// wantedOf returns what is to be told of a slot that was put with each of the ballots, of whose places some are bad.
func wantedOf(i int, puts []api.Ballot, record bool, frames [2]bool) toldOf {
	n := len(puts)
	last := (n + 1) % 2 // the frame of the last put
	both := n > 1
	switch {
	case !record && !frames[last]:
		return toldOf{slot.Intact, intact(i, puts[n-1])}
	case !record && both && !frames[1-last] && puts[n-2] == puts[n-1]:
		return toldOf{slot.Intact, intact(i, puts[n-1])}
	case !record:
		return toldOf{slot.Corrupt, lost(i, puts[n-1])}
	case !frames[0] && !frames[1]:
		return toldOf{slot.Intact, intact(i, puts[n-1])}
	}
	return toldOf{slot.Corrupt, blind(i)}
}

// TestFaults hurts each choice of a slot's sectors, in several ways, after one put and after more.
func TestFaults(t *testing.T) { // P11.3, P11.4, P11.7
	for _, i := range []int{1, 13, 24} {
		for _, puts := range [][]api.Ballot{
			{ballot(2, 1)}, {ballot(2, 1), ballot(2, 1)}, {ballot(2, 1), ballot(2, 2)}, {ballot(2, 1), ballot(3, 0), ballot(3, 0)}, {ballot(2, 1), ballot(3, 0), ballot(4, 4)},
		} {
			for some := range 32 {
				for way := range hurts {
					d := made(t, all)
					l := opened(t, d, 3, 1, 0)
					for k := 1; k <= slots; k++ {
						for _, b := range puts {
							wantPut(t, l, k, b)
						}
					}
					var bad [5]bool
					for k, s := range sectorsOf(i) {
						if bad[k] = some>>k&1 != 0; bad[k] {
							hurts[(way+k)%len(hurts)](t, d, s)
						}
					}
					wantSeen(t, d, 3)
					told := map[int]toldOf{}
					for k := 1; k <= slots; k++ {
						told[k] = toldOf{slot.Intact, intact(k, puts[len(puts)-1])}
					}
					told[i] = wantedOf(i, puts, bad[0], [2]bool{bad[1] || bad[2], bad[3] || bad[4]})
					wantTold(t, fmt.Sprint(i, puts, bad), l, told)
				}
			}
		}
	}
}

// TestFaultsElsewhere hurts each sector that does not belong to a slot.
func TestFaultsElsewhere(t *testing.T) { // P11.3, P11.7
	d := made(t, 160)
	l := opened(t, d, 3, 1, 0)
	b := ballot(2, 1)
	for _, k := range []int{9, 10} {
		wantPut(t, l, k, b)
		wantPut(t, l, k, b)
	}
	own := map[int]bool{}
	for _, s := range sectorsOf(9) {
		own[s] = true
	}
	for s := range 160 {
		if !own[s] {
			hurts[s%len(hurts)](t, d, s)
			wantSlot(t, l, slot.Intact, intact(9, b))
		}
	}
	wantSlot(t, l, slot.Corrupt, blind(10))
	wantPut(t, l, 10, b)
	wantSlot(t, l, slot.Intact, intact(10, b))
}

// TestStrays lets writes of a slot's sectors go to all others, too.
func TestStrays(t *testing.T) { // P11.7
	b, c := ballot(2, 1), ballot(2, 3)
	for _, from := range sectorsOf(4) {
		for to := range all {
			d := made(t, all)
			l := opened(t, d, 3, 1, 0)
			for _, i := range []int{4, 5, 16} {
				wantPut(t, l, i, b)
				wantPut(t, l, i, c)
			}
			want(t, "stray", d.Stray(from, to), api.OK)
			wantSeen(t, d, 3)
			for i := 1; i <= slots; i++ {
				class, e := l.Class(i)
				r, _ := l.Get(i)
				isPut := i == 4 || i == 5 || i == 16
				isRight := !isPut && r.State != api.ReIntact || isPut && (r == intact(i, c) || r == lost(i, c) || class == slot.Corrupt && r == blind(i))
				if e != api.OK || !isRight {
					t.Errorf("from %d to %d: %d: %d, %v", from, to, i, class, r)
				}
			}
		}
	}
}

// hurt hurts a sector in a way that may not be detectable.
func hurt(t *testing.T, r *rand.Rand, d *disk.Disk, sector int) {
	t.Helper()
	switch r.Intn(4) {
	case 0:
		want(t, "lose", d.Lose(sector), api.OK)
	case 1:
		want(t, "stray", d.Stray(r.Intn(all), sector), api.OK)
	case 2:
		// From where it is likely to matter.
		want(t, "stray", d.Stray(sectorsOf(1 + r.Intn(3))[r.Intn(5)], sector), api.OK)
	default:
		want(t, "flip", d.Flip(sector, r.Intn(512)), api.OK)
	}
}

// run is a log that is used at random, and what has been put there.
type run struct {
	d           *disk.Disk
	l           *wal.Log
	incarnation int
	snap        int
	tried       map[put]bool
	acked       map[int]bool
}

// step does something at random.
func (x *run) step(t *testing.T, r *rand.Rand) {
	t.Helper()
	i := x.snap + []int{1, 1, 1, 2, 2, 3, 23, 24}[r.Intn(8)]
	switch n := r.Intn(20); {
	case n < 10:
		power := r.Intn(12)
		want(t, "power", x.d.Power(power), api.OK)
		p := put{i, ballot(1+r.Intn(4), r.Intn(2)), []api.Entry{noop, stored(i, ballot(n, 0)), longest()}[r.Intn(3)]}
		x.tried[p] = true
		// A log that was opened after an older snapshot gives up what a later index has there.
		maps.DeleteFunc(x.acked, func(k int, _ bool) bool { return k > i && (k-i)%slots == 0 })
		if e := x.l.Put(p.i, p.b, p.x); e == api.OK {
			x.acked[i] = true
			want(t, "power", x.d.Power(100), api.OK)
		} else if power >= 5 || e != api.ErrDown {
			t.Errorf("Put with power %d: %d", power, e)
		}
	case n < 16:
		s := sectorsOf(i)[r.Intn(5)]
		if r.Intn(8) == 0 {
			s = r.Intn(all)
		}
		hurt(t, r, x.d, s)
	case n < 17:
		x.snap += []int{1, 2, 8, 24, 25}[r.Intn(5)]
		want(t, "Cut", x.l.Cut(x.snap), api.OK)
	case n < 18:
		x.snap = max(0, x.snap-r.Intn(30))
		x.l = opened(t, x.d, 2, x.incarnation, x.snap)
	}
	if !x.d.Up() || r.Intn(9) == 0 {
		restart(t, x.d, r.Intn(2) == 0, r.Intn(2) == 0)
		x.incarnation++
		x.l = opened(t, x.d, 2, x.incarnation, x.snap)
	}
}

// wantIntegrity wants each slot to be as P11.7 says, and returns the classes of those that were acknowledged.
func (x *run) wantIntegrity(t *testing.T) []uint8 {
	t.Helper()
	var classes []uint8
	for i, told := range toldOfAll(t, x.l) {
		if told.class == slot.Intact && !x.tried[put{i, told.report.Ballot, told.report.Entry}] {
			t.Errorf("%d: %v was not put", i, told.report)
		}
		if !x.acked[i] {
			continue
		}
		if told.class < slot.Corrupt {
			t.Errorf("%d was acknowledged: %v", i, told)
		}
		classes = append(classes, told.class)
	}
	return classes
}

// TestIntegrity puts, cuts, fails, crashes and hurts at random, as long as all that is hurt can be detected.
func TestIntegrity(t *testing.T) { // P11.7, P11.8
	t.Parallel()
	r := rand.New(rand.NewSource(7))
	told := map[uint8]int{}
	for range 600 {
		x := &run{made(t, all), nil, 1, 0, map[put]bool{}, map[int]bool{}}
		x.l = opened(t, x.d, 2, 1, 0)
		for range 40 {
			x.step(t, r)
			// What can't be detected now may be the cause of what is told later.
			if ok, _ := ghost.Seen(x.d, 2); !ok {
				break
			}
			for _, class := range x.wantIntegrity(t) {
				told[class]++
			}
			if t.Failed() {
				t.FailNow()
			}
		}
	}
	if told[slot.Intact] < 5000 || told[slot.Corrupt] < 3000 {
		t.Errorf("%v", told)
	}
}
