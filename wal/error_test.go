package wal_test

import (
	"fmt"
	"math"
	"slices"
	"testing"

	"sexton/api"
	"sexton/slot"
	"sexton/wal"
)

// wrongBallots holds ballots that are not valid.
func wrongBallots() []api.Ballot {
	l := []api.Ballot{none, ballot(0, 1), ballot(0, 6), ballot(-1, 0), ballot(maxNumber+1, 0), ballot(1, -1), ballot(1, 7), ballot(maxNumber, 7), ballot(1<<48+1, 0), ballot(1, 256)}
	for _, n := range far {
		l = append(l, ballot(n, 0), ballot(1, n))
	}
	return l
}

// wrongEntries holds entries that are not valid.
func wrongEntries() []api.Entry {
	right := stored(3, ballot(1, 0))
	change := func(f func(x *api.Entry)) api.Entry {
		x := right
		f(&x)
		return x
	}
	l := []api.Entry{
		{}, {Kind: 3}, {Kind: api.EnNoop, Client: 1}, {Kind: api.EnNoop, Seq: 1}, {Kind: api.EnNoop, Op: right.Op}, {Kind: api.EnOp},
		change(func(x *api.Entry) { x.Client = -1 }), change(func(x *api.Entry) { x.Client = 4 }),
		change(func(x *api.Entry) { x.Seq = 0 }), change(func(x *api.Entry) { x.Seq = maxNumber + 1 }),
		change(func(x *api.Entry) { x.Op = api.Op{Kind: api.OpGet, Key: "k"} }),
		change(func(x *api.Entry) { x.Op.Kind = 0 }), change(func(x *api.Entry) { x.Op.Kind = 5 }), change(func(x *api.Entry) { x.Op.Kind = api.OpPut }),
		change(func(x *api.Entry) { x.Op.Key = "" }), change(func(x *api.Entry) { x.Op.Key = "123456789" }), change(func(x *api.Entry) { x.Op.Value = "12345678901234567" }),
	}
	for _, n := range far {
		l = append(l, change(func(x *api.Entry) { x.Client = n }), change(func(x *api.Entry) { x.Seq = n }))
	}
	return l
}

// notLive holds indices that are not live after an index.
func notLive(snap int) []int {
	return append([]int{-25, -24, -23, -2, -1, 0, snap - 24, snap - 23, snap - 1, snap, snap + 25, snap + 26, snap + 48, snap + 49, 1<<32 + snap + 1, 1<<48 + snap + 1, maxNumber + 1, snap - maxNumber}, far...)
}

// states brings a disk from one state to the next one, and calls f in each with the error that a call returns that has no other.
func states(t *testing.T, f func(l *wal.Log, running api.Errno)) {
	t.Helper()
	for _, size := range []int{all, all + 1} {
		for _, snap := range []int{0, 7, 24, mostSnap} {
			d := made(t, size)
			l := opened(t, d, 5, 9, snap)
			wantPut(t, l, snap+2, ballot(1, 0))
			check := func(running api.Errno) {
				t.Helper()
				before := viewOf(d)
				f(l, running)
				wantSame(t, d, before)
				wantSnap(t, l, snap)
			}
			check(api.OK)
			want(t, "power", d.Power(0), api.OK)
			check(api.OK)
			want(t, "flush", d.Flush(), api.ErrDown)
			check(api.ErrDown)
			stop(t, d)
			check(api.ErrDown)
			want(t, "start", d.Start(), api.OK)
			check(api.OK)
		}
	}
}

// TestWrongPuts puts at indices that are not live, with ballots and entries that are not valid, on disks in each state.
func TestWrongPuts(t *testing.T) { // P1, P11.2
	states(t, func(l *wal.Log, running api.Errno) {
		snap, b := l.Snap(), ballot(2, 1)
		put := func(i int, b api.Ballot, x api.Entry) {
			t.Helper()
			want(t, fmt.Sprint("Put of ", i, b, x), l.Put(i, b, x), api.ErrArg)
		}
		for _, i := range notLive(snap) {
			put(i, b, noop)
			put(i, none, noop)
			put(i, b, api.Entry{})
			put(i, none, api.Entry{})
		}
		for i := snap + 1; i <= snap+slots; i++ {
			put(i, none, noop)
			put(i, b, api.Entry{})
		}
		for _, b := range wrongBallots() {
			put(snap+1, b, noop)
			put(snap+24, b, stored(3, ballot(1, 0)))
			put(snap+2, b, api.Entry{Kind: 3})
		}
		for _, x := range wrongEntries() {
			put(snap+1, b, x)
			put(snap+24, b, x)
			put(snap+2, none, x)
		}
	})
}

// TestDownPuts makes right puts on disks that are not up.
func TestDownPuts(t *testing.T) { // P11.2
	states(t, func(l *wal.Log, running api.Errno) {
		if running == api.OK {
			return
		}
		for i := l.Snap() + 1; i <= l.Snap()+slots; i++ {
			for _, b := range []api.Ballot{ballot(1, 0), ballot(2, 6), ballot(maxNumber, 6)} {
				want(t, "Put", l.Put(i, b, noop), api.ErrDown)
				want(t, "Put", l.Put(i, b, stored(min(i, 9), b)), api.ErrDown)
			}
		}
	})
}

// TestNoSlots asks for slots that are not live, and for any on disks that are not up.
func TestNoSlots(t *testing.T) { // P1, P11.3, P11.4
	states(t, func(l *wal.Log, running api.Errno) {
		snap := l.Snap()
		for _, i := range notLive(snap) {
			wantNoSlot(t, l, i, api.ErrArg)
		}
		for i := snap + 1; i <= snap+slots; i++ {
			switch {
			case running != api.OK:
				wantNoSlot(t, l, i, running)
			case i == snap+2:
				wantSlot(t, l, slot.Intact, intact(i, ballot(1, 0)))
			default:
				wantSlot(t, l, slot.Absent, absent(i))
			}
		}
		if running != api.OK {
			wantNotAll(t, l, running)
			return
		}
		wantAll(t, l, intact(snap+2, ballot(1, 0)))
	})
}

// TestWrongCuts cuts to what is wrong, and to the same index, whatever the disk's state is.
func TestWrongCuts(t *testing.T) { // P11.5
	states(t, func(l *wal.Log, running api.Errno) {
		snap := l.Snap()
		for _, to := range append([]int{-1, snap - 1, snap - 24, mostSnap + 1, maxNumber}, far...) {
			want(t, fmt.Sprint("Cut to ", to), l.Cut(to), api.ErrArg)
		}
		want(t, "Cut", l.Cut(snap), api.OK)
	})
}

// TestLive puts at each index near those that are live.
func TestLive(t *testing.T) { // P11.2, P11.3, P11.4
	for _, snap := range []int{0, 1, 5, 23, 24, 25, 1 << 33, mostSnap - 1, mostSnap} {
		d := made(t, all)
		l := opened(t, d, 6, maxNumber, snap)
		var wanted []api.Report
		for i := snap - 30; i <= snap+60; i++ {
			b := ballot(1+(i-snap+30)%5, 2)
			x := noop
			if 0 < i && i <= maxNumber {
				x = stored(i, b)
			}
			e := l.Put(i, b, x)
			if i > snap && i <= snap+24 {
				want(t, fmt.Sprint("Put of ", i), e, api.OK)
				wantSlot(t, l, slot.Intact, intact(i, b))
				wanted = append(wanted, intact(i, b))
			} else {
				want(t, fmt.Sprint("Put of ", i), e, api.ErrArg)
				wantNoSlot(t, l, i, api.ErrArg)
			}
			wantAll(t, l, wanted...)
		}
		if len(wanted) != 24 {
			t.Errorf("%d puts", len(wanted))
		}
	}
}

// TestAnyArguments calls everything with numbers that are far from all that is right.
func TestAnyArguments(t *testing.T) { // P1
	d := made(t, all)
	l := opened(t, d, 0, 1, 0)
	ns := append([]int{-1, 0, 1, 24, 25, mostSnap, maxNumber}, far...)
	for _, i := range ns {
		wal.Open(d, i, i, i)
		l.Get(i)
		l.Class(i)
		for _, n := range ns {
			l.Put(i, ballot(n, i), api.Entry{Kind: uint8(n), Client: n, Seq: i, Op: api.Op{Kind: uint8(i)}})
			l.Put(i, ballot(i, n), noop)
		}
	}
	for _, i := range ns {
		l.Cut(i)
	}
	wantSnap(t, l, mostSnap)
	wantSlot(t, l, slot.Absent, absent(maxNumber))
	wantNoSlot(t, l, math.MaxInt, api.ErrArg)
}

// TestAllIsTheCallersOwn changes what All returned.
func TestAllIsTheCallersOwn(t *testing.T) { // P11.4
	l := opened(t, made(t, all), 0, 1, 0)
	var wanted []api.Report
	for _, i := range []int{2, 3, 20} {
		wantPut(t, l, i, ballot(4, 4))
		wanted = append(wanted, intact(i, ballot(4, 4)))
	}
	a, _ := l.All()
	b, _ := l.All()
	for k := range a[:cap(a)] {
		a[:cap(a)][k] = blind(9)
	}
	a = append(a, blind(9))
	if !slices.Equal(b, wanted) {
		t.Errorf("told before, %d reports changed: %v", len(a), b)
	}
	wantAll(t, l, wanted...)
}
