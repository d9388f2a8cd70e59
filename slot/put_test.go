package slot_test

import (
	"bytes"
	"math/rand"
	"testing"

	"sexton/api"
	"sexton/entry"
	"sexton/frame"
	"sexton/slot"
	"sexton/tag"
)

// place is what the record and the frames of a slot hold.
type place struct {
	p slot.Record
	f [2]slot.Copy
}

func (x place) asked(i int) answer { return asked(x.p, x.f, i) }

// The places where a put may end: while its frame is written, with that written, and with the record written.
const (
	inFrame = iota
	afterFrame
	afterRecord
)

// put returns what a place holds when a put over frame k has ended.
func (x place) put(k, i int, b api.Ballot, end int) place {
	x.f[k] = of(i, b)
	switch end {
	case inFrame:
		x.f[k] = bad
	case afterRecord:
		x.p = naming(i, b, k)
	}
	return x
}

// wantPut wants a slot to be what P10.5 says after some of a put, or all of it; acked is whether a put of the index was acknowledged before.
func wantPut(t *testing.T, before, after answer, i int, b api.Ballot, acked bool) {
	t.Helper()
	isNew := after.class == slot.Intact && after.report == api.Report{Index: i, State: api.ReIntact, Ballot: b, Entry: stored(i, b)}
	isOld := after.class == before.class && after.report == before.report
	isTorn := after.class == slot.Torn && !acked
	if after.class == slot.Corrupt || !isNew && !isOld && !isTorn {
		t.Fatalf("put of %d with %v: %v after %v", i, b, after, before)
	}
	if before.class == slot.Intact && after.class != slot.Intact {
		t.Fatalf("put of %d with %v: %v after %v", i, b, after, before)
	}
	if after.next == after.which || after.next != 0 && after.next != 1 {
		t.Fatalf("put of %d with %v: %v", i, b, after)
	}
}

// wantEnd wants a put that ended there to have the effect that this place has.
func wantEnd(t *testing.T, before, after answer, b api.Ballot, end int) {
	t.Helper()
	k := before.next
	wanted := answer{class: slot.Intact, which: k, next: 1 - k}
	switch {
	case end == inFrame && before.class == slot.Intact:
		wanted = before
	case end == inFrame:
		wanted = answer{class: slot.Torn, report: api.Report{Index: before.report.Index, State: api.ReAbsent}, which: -1, next: k}
	case end == afterFrame && before.report.Ballot == b:
		// Which one of two with the same ballot it is depends on the record.
		wanted.which, wanted.next = after.which, 1-after.which
	}
	if wanted.class == slot.Intact && end != inFrame {
		i := before.report.Index
		wanted.report = api.Report{Index: i, State: api.ReIntact, Ballot: b, Entry: stored(i, b)}
	}
	if after != wanted {
		t.Fatalf("put with %v that ended at %d: %v after %v; want %v", b, end, after, before, wanted)
	}
}

// wantDamaged wants a slot that was acknowledged with a ballot, and of which some may be bad since, to be what P10.4 says.
func wantDamaged(t *testing.T, x place, i int, b api.Ballot) {
	t.Helper()
	told := x.asked(i)
	if told.class != slot.Corrupt && (told.class != slot.Intact || compared(told.report.Ballot, b) < 0) {
		t.Fatalf("%v for %d, acknowledged with %v: %v", x, i, b, told)
	}
	wantListed(t, x.p, x.f, i)
}

// damaged returns the place with some of its record and its frames bad: a bit of some for each.
func (x place) damaged(some int) place {
	if some&1 != 0 {
		x.p = badRecord
	}
	for k := range x.f {
		if some>>(k+1)&1 != 0 {
			x.f[k] = bad
		}
	}
	return x
}

// history is a place with what has been put there: up to which index, with which ballot, and which one was acknowledged for that index (none, if no put was).
type history struct {
	place
	i      int
	ballot api.Ballot
	acked  api.Ballot
}

// explored puts with each ballot that may follow and each end, over what earlier puts have left, and returns all that is left then.
func (h history) explored(t *testing.T) []history {
	t.Helper()
	before := h.asked(h.i)
	l := []history{{h.place, h.i + 24, h.ballot, none}}
	for _, b := range []api.Ballot{h.ballot, ballot(h.ballot.Round, h.ballot.Replica+1), ballot(h.ballot.Round+1, 0)} {
		for end := range afterRecord + 1 {
			x := history{h.put(before.next, h.i, b, end), h.i, b, h.acked}
			after := x.asked(h.i)
			wantPut(t, before, after, h.i, b, h.acked != none)
			wantEnd(t, before, after, b, end)
			l = append(l, x)
			if end == afterRecord {
				x.acked = b
				l = append(l, x)
			}
		}
	}
	return l
}

// TestIncompletePuts puts one entry after another, of an index and of those that come to the same place later, each put ending at each place.
func TestIncompletePuts(t *testing.T) { // P10.3, P10.4, P10.5, P10.6
	seen := map[history]bool{}
	now := []history{{place{}, 5, ballot(1, 0), none}}
	for range 5 {
		var next []history
		for _, h := range now {
			for _, x := range h.explored(t) {
				if !seen[x] {
					seen[x] = true
					next = append(next, x)
				}
			}
		}
		now = next
	}
	acked := 0
	for h := range seen {
		told := h.asked(h.i)
		if told.class == slot.Corrupt {
			t.Fatalf("%v: %v", h, told)
		}
		if h.acked == none {
			continue
		}
		acked++
		if told.class != slot.Intact || compared(told.report.Ballot, h.acked) < 0 {
			t.Fatalf("%v: %v", h, told)
		}
		for some := range 8 {
			wantDamaged(t, h.damaged(some), h.i, h.acked)
		}
	}
	if len(seen) < 5000 || acked < 1000 {
		t.Errorf("%d histories, %d acknowledged", len(seen), acked)
	}
}

// TestNextPuts follows some puts step by step.
func TestNextPuts(t *testing.T) { // P10.3, P10.5, P10.6
	var x place
	for n, c := range []struct {
		i      int
		b      api.Ballot
		end    int
		class  uint8
		which  int
		before int
		after  int
	}{
		{5, ballot(1, 0), inFrame, slot.Torn, -1, 0, 0},     // nothing was there: frame 0
		{5, ballot(1, 0), inFrame, slot.Torn, -1, 0, 0},     // the torn one again
		{5, ballot(1, 0), afterFrame, slot.Intact, 0, 0, 1}, // intact, without a record
		{5, ballot(1, 2), inFrame, slot.Intact, 0, 1, 1},    // the other one
		{5, ballot(1, 2), afterFrame, slot.Intact, 1, 1, 0},
		{5, ballot(2, 0), afterRecord, slot.Intact, 0, 0, 1},
		{5, ballot(3, 1), inFrame, slot.Intact, 0, 1, 1},
		{5, ballot(3, 1), afterRecord, slot.Intact, 1, 1, 0},
		{29, ballot(3, 1), inFrame, slot.Torn, -1, 0, 0}, // another index: the one that the record does not name
		{29, ballot(4, 0), afterFrame, slot.Intact, 0, 0, 1},
		{29, ballot(4, 0), afterRecord, slot.Intact, 1, 1, 0},
		{53, ballot(4, 0), afterRecord, slot.Intact, 0, 0, 1},
		{77, ballot(4, 0), afterFrame, slot.Intact, 1, 1, 0},
		{77, ballot(5, 0), afterRecord, slot.Intact, 0, 0, 1},
	} {
		k := slot.Next(x.p, x.f, c.i)
		x = x.put(k, c.i, c.b, c.end)
		told := x.asked(c.i)
		if k != c.before || told.class != c.class || told.which != c.which || told.next != c.after {
			t.Fatalf("%d: frame %d, then %v", n, k, told)
		}
	}
}

// TestDamage makes some of a slot bad that was put and acknowledged, whatever its other frame holds.
func TestDamage(t *testing.T) { // P10.4
	for _, b := range []api.Ballot{ballot(1, 0), ballot(5, 3), ballot(maxNumber-1, 6)} {
		others := []slot.Copy{blank, bad}
		for _, x := range []api.Ballot{ballot(b.Round, b.Replica+1), ballot(b.Round+1, 0), ballot(maxNumber, 6)} {
			others = append(others, of(29, x))
		}
		for _, x := range append(someBallots(), b, ballot(1, 0), ballot(maxNumber, 6)) {
			for _, i := range []int{28, 5, 1, -1, 0} {
				others = append(others, of(i, x))
			}
		}
		for which := range 2 {
			for _, c := range others {
				x := place{p: naming(29, b, which)}
				x.f[which], x.f[1-which] = of(29, b), c
				for some := range 8 {
					wantDamaged(t, x.damaged(some), 29, b)
				}
			}
		}
	}
}

// area is the bytes of a slot on a disk: of its record, and of its frames.
type area struct {
	record []byte
	frames [2][]byte
}

const (
	replica = 2
	at      = 4 // the place of the log
	sector  = 64
)

// read returns what the bytes hold, as the log reads them.
func (a area) read() place {
	var x place
	state, y, b := frame.Mine(a.record, replica, 3, at)
	if x.p.State = state; state == frame.Good {
		x.p.Index = y.Index
		var e api.Errno
		if x.p.Ballot, x.p.Which, e = slot.Parse(b); e != api.OK {
			x.p = badRecord
		}
	}
	for k := range a.frames {
		state, y, b := frame.Mine(a.frames[k], replica, 4, 2*at+k)
		c := slot.Copy{State: state, Index: y.Index}
		if state == frame.Good {
			var e api.Errno
			if c.Ballot, c.Entry, e = entry.Parse(b); e != api.OK {
				c = bad
			}
		}
		x.f[k] = c
	}
	return x
}

// put puts as far as the end, and with the sectors of the frame that come through.
func (a area) put(t *testing.T, k, i int, b api.Ballot, end int, kept [2]bool) area {
	t.Helper()
	p, e := entry.Print(b, stored(i, b))
	wantErrno(t, "entry's Print", e, api.OK)
	whole, e := frame.Seal(tag.Tag{Replica: replica, Region: 4, Place: 2*at + k, Index: i, Incarnation: 1}, p, 2)
	wantErrno(t, "Seal of a frame", e, api.OK)
	a.frames[k] = bytes.Clone(a.frames[k])
	for s, comes := range kept {
		if comes || end != inFrame {
			copy(a.frames[k][s*sector:(s+1)*sector], whole[s*sector:])
		}
	}
	if end == afterRecord {
		p, e = slot.Print(b, k)
		wantErrno(t, "Print", e, api.OK)
		a.record, e = frame.Seal(tag.Tag{Replica: replica, Region: 3, Place: at, Index: i, Incarnation: 1}, p, 1)
		wantErrno(t, "Seal of a record", e, api.OK)
	}
	return a
}

// damaged returns the area with some of its sectors flipped in a bit, or lost.
func (a area) damaged(r *rand.Rand) area {
	hurt := func(b []byte) []byte {
		switch r.Intn(4) {
		case 0:
			return nil
		case 1:
			b = bytes.Clone(b)
			b[r.Intn(len(b))] ^= 1 << r.Intn(8)
		}
		return b
	}
	return area{hurt(a.record), [2][]byte{hurt(a.frames[0]), hurt(a.frames[1])}}
}

// TestPutsOfBytes puts bytes, some of which come through, and then damages what was acknowledged.
func TestPutsOfBytes(t *testing.T) { // P10.1, P10.4, P10.5, P10.6
	r := rand.New(rand.NewSource(12))
	told := map[uint8]int{}
	for range 500 {
		a := area{make([]byte, sector), [2][]byte{make([]byte, 2*sector), make([]byte, 2*sector)}}
		i, b, acked := 5, ballot(1, 0), none
		for range 12 {
			if r.Intn(6) == 0 {
				i, acked = i+24, none
			}
			b = []api.Ballot{b, b, ballot(b.Round, min(b.Replica+1, 6)), ballot(b.Round+1, r.Intn(7))}[r.Intn(4)]
			before, end := a.read().asked(i), r.Intn(3)
			a = a.put(t, before.next, i, b, end, [2]bool{r.Intn(2) == 0, r.Intn(2) == 0})
			after := a.read().asked(i)
			wantPut(t, before, after, i, b, acked != none)
			if end != inFrame {
				wantEnd(t, before, after, b, end)
			}
			if end == afterRecord && r.Intn(2) == 0 {
				acked = b
			}
			told[after.class]++
			if acked != none {
				x := a.damaged(r).read()
				wantDamaged(t, x, i, acked)
				told[x.asked(i).class]++
			}
		}
	}
	for _, class := range []uint8{slot.Torn, slot.Corrupt, slot.Intact} {
		if told[class] < 100 {
			t.Errorf("%v", told)
		}
	}
}

// TestHurtWhileAnotherIsPut makes each subset of what an acknowledged slot holds bad while another put is under way.
func TestHurtWhileAnotherIsPut(t *testing.T) { // P10.4
	for _, b := range []api.Ballot{ballot(1, 0), ballot(5, 3)} {
		for which := range 2 {
			var x place
			x.p, x.f[which] = naming(5, b, which), of(5, b)
			for _, later := range []api.Ballot{b, ballot(b.Round, b.Replica+1), ballot(b.Round+1, 0)} {
				for end := range afterRecord + 1 {
					for some := range 8 {
						wantDamaged(t, x.put(1-which, 5, later, end).damaged(some), 5, b)
					}
				}
			}
		}
	}
}
