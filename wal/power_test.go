package wal_test

import (
	"fmt"
	"math/rand"
	"testing"

	"sexton/api"
	"sexton/disk"
	"sexton/slot"
	"sexton/wal"
)

// toldOf is what is told of a slot.
type toldOf struct {
	class  uint8
	report api.Report
}

// toldOfAll returns what is told of each live slot.
func toldOfAll(t *testing.T, l *wal.Log) map[int]toldOf {
	t.Helper()
	told := map[int]toldOf{}
	for i := l.Snap() + 1; i <= l.Snap()+slots; i++ {
		r, e := l.Get(i)
		class, f := l.Class(i)
		if e != api.OK || f != api.OK || r.Index != i {
			t.Errorf("%d: %d, %v, %d, %d", i, class, r, e, f)
		}
		told[i] = toldOf{class, r}
	}
	return told
}

// put is a put with an entry.
type put struct {
	i int
	b api.Ballot
	x api.Entry
}

// past is what has been done with a log, before the power fails.
type past struct {
	name string
	// puts are those that were acknowledged; after each the log is cut, if that is needed for the next one.
	puts []put
	// torn is whether the first sector alone of another put has come through since.
	torn bool
}

// pasts returns what may have been done with the place of an index before it is put: the last put of an index is the one that counts.
func pasts(i int) []past {
	of := func(i, round int) put { return put{i, ballot(round, 1), stored(i, ballot(round, 1))} }
	once, twice := []put{of(i, 2)}, []put{of(i, 2), of(i, 3)}
	long := []put{{i, ballot(2, 0), longest()}, {i, ballot(2, 1), noop}, {i, ballot(3, 0), longest()}}
	older := []put{of(i-24, 8), of(i-24, 9)}
	return []past{
		{"never put", nil, false}, {"torn", nil, true},
		{"once", once, false}, {"once, and torn", once, true},
		{"twice", twice, false}, {"twice, and torn", twice, true},
		{"three times", append(twice, of(i, 3)), false}, {"long and short ones", long, false}, {"long and short ones, and torn", long, true},
		{"another index", older[:1], false}, {"another index, and torn", older[:1], true},
		{"another index twice", older, false}, {"another index twice, and torn", older, true},
		{"two other indices", []put{of(i-48, 9), of(i-48, 9), of(i-24, 8)}, false},
		{"another index, and once", append(older[:1:1], once...), false}, {"another index twice, and once", append(older, once...), true},
	}
}

// disk returns a disk with that past, and what is told of each slot.
func (p past) disk(t *testing.T, i, snap int) (*disk.Disk, map[int]toldOf) {
	t.Helper()
	d := made(t, all)
	l := opened(t, d, 1, 1, 0)
	for _, x := range p.puts {
		want(t, "Cut", l.Cut(max(l.Snap(), x.i-slots)), api.OK)
		want(t, "Put", l.Put(x.i, x.b, x.x), api.OK)
	}
	want(t, "Cut", l.Cut(snap), api.OK)
	for _, other := range []int{i - 1, i + 1} {
		if snap < other && other <= snap+slots {
			wantPut(t, l, other, ballot(4, 4))
		}
	}
	if p.torn {
		want(t, "power", d.Power(2), api.OK)
		want(t, "Put", l.Put(i, ballot(3, 2), stored(i, ballot(3, 2))), api.ErrDown)
		restart(t, d, true, false)
	}
	return d, toldOfAll(t, opened(t, d, 1, 2, snap))
}

// acked returns the last put of the index that was acknowledged, or false.
func (p past) acked(i int) (put, bool) {
	if n := len(p.puts); n > 0 && p.puts[n-1].i == i {
		return p.puts[n-1], true
	}
	return put{}, false
}

// wantAfter returns what is to be told of the slot after a put with that power, of whose frame these sectors came through.
func (p past) wantAfter(before toldOf, x put, power int, keep []bool) toldOf {
	new := toldOf{slot.Intact, intactBy(x.i, x.b, x.x)}
	came := 0
	for _, k := range keep {
		if k {
			came++
		}
	}
	_, acked := p.acked(x.i)
	switch {
	case power >= 3, power == 2 && came == 2:
		return new
	case came > 0 && !acked:
		return toldOf{slot.Torn, absent(x.i)}
	}
	return before
}

// TestPowerFails puts with each power, over each past, and wants each slot to be what it should be after each crash.
func TestPowerFails(t *testing.T) { // P11.2, P11.6, P11.8
	t.Parallel()
	for _, i := range []int{1, 24, 25, 49, 72, 1<<33 + 1} {
		for _, p := range pasts(i) {
			// There is no index below 1.
			if len(p.puts) > 0 && p.puts[0].i < 1 {
				continue
			}
			for _, snap := range []int{max(0, i-24), i - 1} {
				for n, x := range []api.Entry{noop, longest(), stored(i, ballot(3, 1))} {
					wantAtomic(t, p, put{i, ballot(3+n, 2), x}, snap)
				}
				if t.Failed() {
					t.Fatalf("%d after %d: %s", i, snap, p.name)
				}
			}
		}
	}
}

// wantAtomic makes a put with each power, and a crash after it with each choice of what comes through.
func wantAtomic(t *testing.T, p past, x put, snap int) {
	t.Helper()
	for power := range 6 {
		for _, keep := range keeps([]int{0, 1, 2, 0, 1, 0}[power]) {
			d, before := p.disk(t, x.i, snap)
			if y, ok := p.acked(x.i); ok {
				if r := intactBy(y.i, y.b, y.x); before[x.i] != (toldOf{slot.Intact, r}) {
					t.Errorf("before: %v; want %v", before[x.i], r)
				}
			}
			l := opened(t, d, 1, 3, snap)
			want(t, "power", d.Power(power), api.OK)
			wanted := api.ErrDown
			if power == 5 {
				wanted = api.OK
			}
			want(t, "Put", l.Put(x.i, x.b, x.x), wanted)
			if d.Waits() != len(keep) {
				t.Errorf("power %d: %d are pending", power, d.Waits())
			}
			restart(t, d, keep...)
			after := before
			after[x.i] = p.wantAfter(before[x.i], x, power, keep)
			wantTold(t, fmt.Sprint("power ", power, ", kept ", keep), l, after)
			wantTold(t, "opened again", opened(t, d, 1, 4, snap), after)
		}
	}
}

// wantTold wants that to be told of each live slot.
func wantTold(t *testing.T, when string, l *wal.Log, wanted map[int]toldOf) {
	t.Helper()
	var reports []api.Report
	told := toldOfAll(t, l)
	for i := l.Snap() + 1; i <= l.Snap()+slots; i++ {
		if told[i] != wanted[i] {
			t.Errorf("%s: %d: %v; want %v", when, i, told[i], wanted[i])
		}
		if wanted[i].class >= slot.Corrupt {
			reports = append(reports, wanted[i].report)
		}
	}
	wantAll(t, l, reports...)
}

// tries is what was tried at an index.
type tries struct {
	acked  api.Ballot // with which a put returned OK last
	latest api.Ballot // with which one was made last
	since  map[api.Ballot]bool
}

// TestManyPowerFailures makes one put after another, most of which are not completed, and wants each slot to be as P11.6 says.
func TestManyPowerFailures(t *testing.T) { // P11.6, P11.8
	t.Parallel()
	r := rand.New(rand.NewSource(6))
	told := map[uint8]int{}
	for range 100 {
		d := made(t, all)
		incarnation, snap := 1, 0
		l := opened(t, d, 5, incarnation, snap)
		at := map[int]tries{}
		for range 60 {
			i := snap + []int{1, 1, 2, 3, 12, 23, 24, 24}[r.Intn(8)]
			x := at[i]
			x.latest.Round = max(1, x.latest.Round)
			b := []api.Ballot{x.latest, x.latest, ballot(x.latest.Round, min(6, x.latest.Replica+1)), ballot(x.latest.Round+1, r.Intn(3))}[r.Intn(4)]
			before := toldOfAll(t, l)
			power := r.Intn(8)
			want(t, "power", d.Power(power), api.OK)
			e := l.Put(i, b, stored(i, b))
			if (e == api.OK) != (power >= 5) {
				t.Errorf("power %d: %d", power, e)
			}
			x.latest = b
			if e == api.OK {
				x.acked, x.since = b, nil
			} else {
				x.since = with(x.since, b)
			}
			at[i] = x
			if e != api.OK || r.Intn(2) == 0 {
				restart(t, d, r.Intn(2) == 0, r.Intn(2) == 0)
				incarnation++
				l = opened(t, d, 5, incarnation, snap)
			} else {
				want(t, "power", d.Power(100), api.OK)
			}
			after := toldOfAll(t, l)
			for k := range after {
				if k != i && after[k] != before[k] {
					t.Errorf("%d was put; %d: %v; want %v", i, k, after[k], before[k])
				}
				told[after[k].class]++
			}
			wantTried(t, after[i], x)
			if r.Intn(6) == 0 {
				snap += []int{1, 2, 8, 24, 30}[r.Intn(5)]
				want(t, "Cut", l.Cut(snap), api.OK)
			}
			if t.Failed() {
				t.FailNow()
			}
		}
	}
	if told[slot.Torn] < 500 || told[slot.Absent] < 500 || told[slot.Intact] < 500 || told[slot.Corrupt] != 0 {
		t.Errorf("%v", told)
	}
}

func with(m map[api.Ballot]bool, b api.Ballot) map[api.Ballot]bool {
	more := map[api.Ballot]bool{b: true}
	for k := range m {
		more[k] = true
	}
	return more
}

// wantTried wants a slot to be intact with the ballot that was acknowledged last, or one that was tried since.
func wantTried(t *testing.T, told toldOf, x tries) {
	t.Helper()
	i, b := told.report.Index, told.report.Ballot
	if told.class != slot.Intact {
		if told.class == slot.Corrupt || x.acked != none || told.report != absent(i) {
			t.Errorf("%v after %v", told, x)
		}
		return
	}
	if b != x.acked && !x.since[b] || told.report != intact(i, b) {
		t.Errorf("%v after %v", told, x)
	}
}

// TestReuse cuts, and puts at places that were used before, with ballots that are less, the same, and greater.
func TestReuse(t *testing.T) { // P11.5, P11.8
	for _, i := range []int{1, 5, 24} {
		for _, rounds := range []int{0, 1, 2, 3} { // so many puts of the old index
			for _, next := range []int{i + 24, i + 48, i + 24*1000, i + 24*(1<<33)} {
				for _, round := range []int{1, 4, 5, 6, 9} {
					d := made(t, all)
					l := opened(t, d, 0, 1, 0)
					for n := range rounds {
						wantPut(t, l, i, ballot(4+n, 1))
					}
					snap := next - 1 - i%24
					want(t, "Cut", l.Cut(snap), api.OK)
					wantSlot(t, l, slot.Absent, absent(next))
					wantAll(t, l)
					for n := range 4 {
						b := ballot(round+n/2, n)
						wantPut(t, l, next, b)
						wantSlot(t, l, slot.Intact, intact(next, b))
						wantAll(t, l, intact(next, b))
						restart(t, d)
						l = opened(t, d, 0, 2+n, snap)
						wantAll(t, l, intact(next, b))
						// The old index is covered now.
						old := opened(t, d, 0, 2+n, 0)
						wantAll(t, old, blind(i))
					}
				}
			}
		}
	}
}

// TestReuseOfHurt puts at places that were used before, and are hurt.
func TestReuseOfHurt(t *testing.T) { // P11.7, P11.8
	for rounds := range 4 {
		for some := range 32 {
			d := made(t, all)
			l := opened(t, d, 0, 1, 0)
			for n := range rounds {
				wantPut(t, l, 3, ballot(7+n, 1))
			}
			for k, s := range []int{recordAt(3), frameAt(3, 0), frameAt(3, 0) + 1, frameAt(3, 1), frameAt(3, 1) + 1} {
				if some>>k&1 != 0 {
					want(t, "flip", d.Flip(s, 7*some), api.OK)
				}
			}
			want(t, "Cut", l.Cut(10), api.OK)
			for n := range 3 {
				wantPut(t, l, 27, ballot(1+n, 0))
				wantSlot(t, l, slot.Intact, intact(27, ballot(1+n, 0)))
				wantAll(t, l, intact(27, ballot(1+n, 0)))
			}
		}
	}
}
