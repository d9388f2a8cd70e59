package wal_test

import (
	"bytes"
	"fmt"
	"math/rand"
	"slices"
	"testing"

	"sexton/api"
	"sexton/disk"
	"sexton/entry"
	"sexton/frame"
	"sexton/slot"
	"sexton/tag"
	"sexton/wal"
)

// wantRest wants a frame to be at rest from a sector on.
func wantRest(t *testing.T, d *disk.Disk, first int, wanted []byte) {
	t.Helper()
	var b []byte
	for s := range len(wanted) / wide {
		x, _, e := d.Rest(first + s)
		want(t, "rest", e, api.OK)
		b = append(b, x...)
	}
	if !bytes.Equal(b, wanted) {
		state, x, body := frame.Open(b)
		t.Errorf("at rest from %d: %d, %v, %v", first, state, x, body)
	}
}

// TestWhere puts one entry, and wants its bytes to be where the chapters say, and nothing else to have changed.
func TestWhere(t *testing.T) { // P11.2
	for _, size := range []int{156, 157, most} {
		for _, i := range append([]int{mostSnap, maxNumber - 1, maxNumber}, indices...) {
			for _, x := range []api.Entry{noop, longest(), {Kind: api.EnOp, Seq: 1, Op: api.Op{Kind: api.OpDelete, Key: "k"}}} {
				d := made(t, size)
				for s := range size {
					if s < recordAt(1) || s >= frameAt(24, 1)+2 {
						lay(t, d, s, filled(wide, byte(s)))
					}
				}
				replica, incarnation := i%7, []int{1, 2, maxNumber}[i%3]
				before := viewOf(d)
				l := opened(t, d, replica, incarnation, min(mostSnap, i-1))
				b := ballot(1+i%9, (i+1)%7)
				want(t, "Put", l.Put(i, b, x), api.OK)
				place := (i - 1) % 24
				f := sealed(t, tag.Tag{Replica: replica, Region: 4, Place: 2 * place, Index: i, Incarnation: incarnation}, holding(t, b, x), 2)
				p := sealed(t, tag.Tag{Replica: replica, Region: 3, Place: place, Index: i, Incarnation: incarnation}, naming(b.Round, b.Replica, 0), 1)
				wantRest(t, d, 28+4*place, f)
				wantRest(t, d, 4+place, p)
				wantSlot(t, l, slot.Intact, intactBy(i, b, x))
				lay(t, d, 28+4*place, make([]byte, 2*wide))
				lay(t, d, 4+place, make([]byte, wide))
				wantSame(t, d, before)
			}
		}
	}
}

// TestForm puts an entry the bytes of which are written out here.
func TestForm(t *testing.T) { // P11.2
	d := made(t, all)
	l := opened(t, d, 6, 258, 48)
	x := api.Entry{Kind: api.EnOp, Client: 2, Seq: 3, Op: api.Op{Kind: api.OpPut, Key: "k", Value: "v"}}
	for range 2 {
		want(t, "Put", l.Put(51, ballot(513, 4), x), api.OK)
	}
	for which := range 2 {
		b, _, _ := d.Rest(28 + 4*2 + 2*which)
		wanted := []byte{21, 0, 6, 4, byte(4 + which), 51, 0, 0, 0, 0, 0, 2, 1, 0, 0, 0, 0, 1, 2, 0, 0, 0, 0, 4, 2, 2, 3, 0, 0, 0, 0, 0, 2, 1, 'k', 0, 1, 'v'}
		if !bytes.Equal(b[:len(wanted)], wanted) || !bytes.Equal(b[len(wanted):], make([]byte, wide-len(wanted))) {
			t.Errorf("frame %d: %v", which, b)
		}
	}
	b, _, _ := d.Rest(4 + 2)
	wanted := []byte{8, 0, 6, 3, 2, 51, 0, 0, 0, 0, 0, 2, 1, 0, 0, 0, 0, 1, 2, 0, 0, 0, 0, 4, 1}
	if !bytes.Equal(b[:len(wanted)], wanted) {
		t.Errorf("record: %v", b)
	}
}

// TestWhich puts again and again, and wants the two frames to be overwritten in turn.
func TestWhich(t *testing.T) { // P11.2, P11.8
	d := made(t, all)
	l := opened(t, d, 0, 1, 0)
	m := model{d, 0, 1, 0}
	for n := range 20 {
		i, b := 7+24*(n/5), ballot(1+n%5, 0)
		want(t, "Cut", l.Cut(i-7), api.OK)
		wantPut(t, l, i, b)
		p, f := m.record(i), m.frame(i, n%2)
		if p.Which != n%2 || p.Index != i || p.Ballot != b || f.Index != i || f.Ballot != b || f.Entry != stored(i, b) {
			t.Errorf("put %d: %v, %v", n, p, f)
		}
		wantAll(t, l, intact(i, b))
	}
}

// TestCalls puts with the power for some calls, and wants these to be made, in their order, and no others.
func TestCalls(t *testing.T) { // P11.2
	b, c := ballot(1, 2), ballot(2, 0)
	for power := range 8 {
		d := made(t, all)
		l := opened(t, d, 3, 1, 0)
		wantPut(t, l, 9, b)
		kept := []int{recordAt(9), frameAt(9, 0), frameAt(9, 0) + 1}
		var before [][]byte
		for _, sector := range kept {
			x, _, _ := d.Rest(sector)
			before = append(before, x)
		}
		want(t, "power", d.Power(power), api.OK)
		e := l.Put(9, c, longest())
		wanted, up, waits := api.ErrDown, false, []int{0, 1, 2, 0, 1, 0, 0, 0}[power]
		if power >= 5 {
			wanted, up = api.OK, true
		}
		if e != wanted || d.Up() != up || d.Waits() != waits {
			t.Errorf("power %d: %d, up: %v, %d are pending", power, e, d.Up(), d.Waits())
		}
		// The frame comes after two writes and a flush, the record after another two calls.
		first, _, _ := d.Rest(frameAt(9, 1))
		second, _, _ := d.Rest(frameAt(9, 1) + 1)
		f := sealed(t, tag.Tag{Replica: 3, Region: 4, Place: 17, Index: 9, Incarnation: 1}, holding(t, c, longest()), 2)
		if whole := bytes.Equal(slices.Concat(first, second), f); whole != (power >= 3) {
			t.Errorf("power %d: the frame is at rest: %v", power, whole)
		}
		for k, sector := range kept {
			x, _, _ := d.Rest(sector)
			if same := bytes.Equal(x, before[k]); same != (power < 5 || sector != recordAt(9)) {
				t.Errorf("power %d: sector %d is as it was: %v", power, sector, same)
			}
		}
		for n := range power - 5 {
			want(t, fmt.Sprint("write ", n), d.Write(0, make([]byte, wide)), api.OK)
		}
		want(t, "no more", d.Write(0, make([]byte, wide)), api.ErrDown)
	}
}

// keeps returns all ways of keeping or dropping so many pending writes.
func keeps(waits int) [][]bool {
	l := [][]bool{nil}
	for range waits {
		var longer [][]bool
		for _, k := range l {
			longer = append(longer, append(slices.Clone(k), false), append(slices.Clone(k), true))
		}
		l = longer
	}
	return l
}

// wantTwins wants two disks to show the same, at some of their sectors.
func wantTwins(t *testing.T, when string, a, b *disk.Disk, sectors []int) {
	t.Helper()
	if a.Up() != b.Up() || a.Waits() != b.Waits() {
		t.Errorf("%s: up: %v, %d are pending; want %v, %d", when, a.Up(), a.Waits(), b.Up(), b.Waits())
	}
	for _, s := range sectors {
		x, xLost, _ := a.Rest(s)
		y, yLost, _ := b.Rest(s)
		p, _ := a.Meant(s)
		q, _ := b.Meant(s)
		if !bytes.Equal(x, y) || xLost != yLost || !bytes.Equal(p, q) {
			t.Errorf("%s: sector %d is not as it should be", when, s)
		}
	}
}

// near returns the sectors of a slot, and of those beside it.
func near(i int) []int {
	var l []int
	for _, k := range []int{i + 23, i, i + 1} {
		l = append(l, recordAt(k))
		for s := range 4 {
			l = append(l, frameAt(k, 0)+s)
		}
	}
	return l
}

// wantAsDefined puts over a slot with each power, and wants that to do what it does by its definition on another disk, also after each crash.
func wantAsDefined(t *testing.T, s laid, powers []int, b api.Ballot, x api.Entry) {
	t.Helper()
	for _, power := range powers {
		waits := s.model(t)
		want(t, "power", waits.d.Power(power), api.OK)
		waits.put(t, s.i, b, x)
		for _, keep := range keeps(waits.d.Waits()) {
			m, twin := s.model(t), s.model(t)
			l := opened(t, m.d, m.replica, m.incarnation, m.snap)
			want(t, "power", m.d.Power(power), api.OK)
			want(t, "power", twin.d.Power(power), api.OK)
			want(t, fmt.Sprint("Put with power ", power), l.Put(s.i, b, x), twin.put(t, s.i, b, x))
			wantTwins(t, fmt.Sprint("power ", power), m.d, twin.d, near(s.i))
			restart(t, m.d, keep...)
			restart(t, twin.d, keep...)
			wantTwins(t, fmt.Sprint("power ", power, ", kept ", keep), m.d, twin.d, near(s.i))
			class, r := twin.what(s.i)
			wantSlot(t, l, class, r)
		}
	}
}

// TestPutOver puts over each content of a record beside some of the frames, and over each two of the frames.
func TestPutOver(t *testing.T) { // P11.2
	t.Parallel()
	n := 0
	ps, fs := recordContents(), frameContents(t)
	over := func(p, f0, f1 content) {
		t.Helper()
		n++
		s := laid{i: indices[n%len(indices)], p: p, f: [2]content{f0, f1}}
		b := []api.Ballot{ballot(1, 0), ballot(2, 1), ballot(2, 1), ballot(3, 3), ballot(maxNumber, 6)}[n%5]
		// Each power for some, and for all others one that suffices.
		powers := []int{5}
		if n%7 == 0 {
			powers = []int{0, 1, 2, 3, 4, 5}
		}
		wantAsDefined(t, s, powers, b, stored(9, b))
		if t.Failed() {
			t.Fatalf("%v", s)
		}
	}
	for k, p := range ps {
		for j, f := range fs {
			over(p, f, fs[(j+7*k)%len(fs)])
			over(p, fs[(5*j+k)%len(fs)], f)
		}
	}
	for k, f0 := range fs {
		for j, f1 := range fs {
			over(ps[(k+j)%len(ps)], f0, f1)
		}
	}
	if n < 4000 {
		t.Errorf("%d contents", n)
	}
}

// TestMends puts over slots that are hurt, and wants them to be intact then.
func TestMends(t *testing.T) { // P11.2, P11.7
	for some := range 32 {
		d := made(t, all)
		l := opened(t, d, 2, 1, 24)
		for i := 25; i <= 48; i++ {
			wantPut(t, l, i, ballot(3, 1))
			wantPut(t, l, i, ballot(3, 2))
		}
		sectors := []int{recordAt(30), frameAt(30, 0), frameAt(30, 0) + 1, frameAt(30, 1), frameAt(30, 1) + 1}
		for k, s := range sectors {
			if some>>k&1 != 0 {
				want(t, "lose", d.Lose(s), api.OK)
			}
		}
		wantPut(t, l, 30, ballot(4, 0))
		for i := 25; i <= 48; i++ {
			b := ballot(3, 2)
			if i == 30 {
				b = ballot(4, 0)
			}
			wantSlot(t, l, slot.Intact, intact(i, b))
		}
		wantPut(t, l, 30, ballot(4, 1))
		wantSlot(t, l, slot.Intact, intact(30, ballot(4, 1)))
		for _, s := range sectors {
			if _, lost, _ := d.Rest(s); lost {
				t.Errorf("%d: sector %d is lost still", some, s)
			}
		}
	}
}

// TestLesserBallots puts with lesser ballots than before: the greatest one is told, as the classes are defined.
func TestLesserBallots(t *testing.T) { // P11.2, P11.3
	d := made(t, all)
	l := opened(t, d, 0, 1, 0)
	wantPut(t, l, 2, ballot(5, 1))
	for _, b := range []api.Ballot{ballot(5, 0), ballot(4, 6), ballot(1, 0)} {
		wantPut(t, l, 2, b)
		wantAll(t, l, intact(2, ballot(5, 1)))
		m := model{d, 0, 1, 0}
		if p, f := m.record(2), m.frame(2, 1); p.Ballot != b || p.Which != 1 || f.Ballot != b {
			t.Errorf("%v, %v", p, f)
		}
	}
	want(t, "lose", d.Lose(frameAt(2, 0)), api.OK)
	wantAll(t, l, intact(2, ballot(1, 0)))
}

// TestAnyCalls makes calls at random, and wants them to do what they do by their definition on another disk.
func TestAnyCalls(t *testing.T) { // P11.1, P11.2, P11.3, P11.4, P11.5, P11.8
	t.Parallel()
	r := rand.New(rand.NewSource(11))
	told := map[uint8]int{}
	for range 60 {
		replica := r.Intn(7)
		d := made(t, all)
		m := model{made(t, all), replica, 1, []int{0, 0, 5, 1 << 33, mostSnap - 50}[r.Intn(5)]}
		l := opened(t, d, replica, 1, m.snap)
		for range 60 {
			anyCall(t, r, d, &l, &m)
			if !d.Up() {
				keep := []bool{r.Intn(2) == 0, r.Intn(2) == 0, r.Intn(2) == 0}
				restart(t, d, keep...)
				restart(t, m.d, keep...)
				m.incarnation++
				l = opened(t, d, replica, m.incarnation, m.snap)
			}
			i := m.snap + 1 + r.Intn(slots)
			class, wanted := m.what(i)
			wantSlot(t, l, class, wanted)
			told[class]++
			if r.Intn(10) == 0 {
				wantModel(t, l, m)
			}
			if t.Failed() {
				t.FailNow()
			}
		}
		var sectors []int
		for s := range all {
			sectors = append(sectors, s)
		}
		wantTwins(t, "at the end", d, m.d, sectors)
	}
	for class := range slot.Intact + 1 {
		if told[class] < 50 {
			t.Errorf("%v", told)
		}
	}
}

// anyCall makes one call at random on both disks.
func anyCall(t *testing.T, r *rand.Rand, d *disk.Disk, l **wal.Log, m *model) {
	t.Helper()
	both := func(f func(d *disk.Disk) api.Errno) {
		t.Helper()
		want(t, "both", f(d), f(m.d))
	}
	i := m.snap + 1 + r.Intn(slots)
	if r.Intn(2) == 0 {
		i = m.snap + 1 + r.Intn(3)
	}
	switch n := r.Intn(20); {
	case n < 10:
		b := ballot(1+r.Intn(3), r.Intn(3))
		x := []api.Entry{noop, stored(i, b), longest()}[r.Intn(3)]
		want(t, "Put", (*l).Put(i, b, x), m.put(t, i, b, x))
	case n < 12:
		snap := min(m.snap+[]int{0, 1, 3, 8, 24, 25, 100}[r.Intn(7)], mostSnap)
		want(t, "Cut", (*l).Cut(snap), api.OK)
		m.snap = snap
	case n < 15:
		power := r.Intn(6)
		both(func(d *disk.Disk) api.Errno { return d.Power(power) })
	case n < 16:
		// A replica starts with an older snapshot, or a newer one.
		m.snap = max(0, min(m.snap+r.Intn(21)-10, mostSnap))
		*l = opened(t, d, m.replica, m.incarnation, m.snap)
	default:
		s := recordAt(i)
		if r.Intn(2) == 0 {
			s = frameAt(i, 0) + r.Intn(4)
		}
		bit, from := r.Intn(512), r.Intn(all)
		switch r.Intn(3) {
		case 0:
			both(func(d *disk.Disk) api.Errno { return d.Flip(s, bit) })
		case 1:
			both(func(d *disk.Disk) api.Errno { return d.Lose(s) })
		default:
			both(func(d *disk.Disk) api.Errno { return d.Stray(from, s) })
		}
	}
}

// TestEntries puts entries of each kind, as short and as long as they may be.
func TestEntries(t *testing.T) { // P11.2, P11.3
	l := opened(t, made(t, all), 0, 1, 0)
	var wanted []api.Report
	for i, x := range []api.Entry{
		noop, longest(), {Kind: api.EnOp, Seq: 1, Op: api.Op{Kind: api.OpPut, Key: "\x00"}},
		{Kind: api.EnOp, Client: 3, Seq: maxNumber, Op: api.Op{Kind: api.OpDelete, Key: "12345678"}},
		{Kind: api.EnOp, Client: 1, Seq: 2, Op: api.Op{Kind: api.OpSwap, Key: "k"}},
		{Kind: api.EnOp, Client: 1, Seq: 2, Op: api.Op{Kind: api.OpSwap, Key: "k", Old: "old", Value: "value"}},
	} {
		for _, b := range []api.Ballot{ballot(1, 0), ballot(1, 6), ballot(1<<33, 2), ballot(maxNumber, 0), ballot(maxNumber, 6)} {
			if !entry.May(x) {
				t.Fatalf("%v", x)
			}
			want(t, "Put", l.Put(i+1, b, x), api.OK)
			wantSlot(t, l, slot.Intact, intactBy(i+1, b, x))
		}
		wanted = append(wanted, intactBy(i+1, ballot(maxNumber, 6), x))
	}
	wantAll(t, l, wanted...)
}
