package wal_test

import (
	"fmt"
	"slices"
	"testing"

	"sexton/api"
	"sexton/disk"
	"sexton/entry"
	"sexton/frame"
	"sexton/slot"
	"sexton/tag"
	"sexton/wal"
)

// model is a log as the chapter defines it, told anew.
type model struct {
	d                          *disk.Disk
	replica, incarnation, snap int
}

// bytes returns the bytes of so many sectors, or false if one of them cannot be read.
func (m model) bytes(first, sectors int) ([]byte, bool) {
	var b []byte
	for s := first; s < first+sectors; s++ {
		x, e := m.d.Read(s)
		if e != api.OK {
			return nil, false
		}
		b = append(b, x...)
	}
	return b, true
}

func (m model) record(i int) slot.Record {
	b, ok := m.bytes(recordAt(i), 1)
	state, x, body := frame.Mine(b, m.replica, 3, (i-1)%slots)
	c, which, e := slot.Parse(body)
	switch {
	case !ok || state == 2 || state == 1 && e != api.OK:
		return slot.Record{State: 2}
	case state == 0:
		return slot.Record{}
	}
	return slot.Record{State: 1, Index: x.Index, Ballot: c, Which: which}
}

func (m model) frame(i, which int) slot.Copy {
	b, ok := m.bytes(frameAt(i, which), 2)
	state, x, body := frame.Mine(b, m.replica, 4, 2*((i-1)%slots)+which)
	c, y, e := entry.Parse(body)
	switch {
	case !ok || state == 2 || state == 1 && e != api.OK:
		return slot.Copy{State: 2}
	case state == 0:
		return slot.Copy{}
	}
	return slot.Copy{State: 1, Index: x.Index, Ballot: c, Entry: y}
}

func (m model) frames(i int) [2]slot.Copy { return [2]slot.Copy{m.frame(i, 0), m.frame(i, 1)} }

func (m model) what(i int) (uint8, api.Report) {
	class, r, _ := slot.What(m.record(i), m.frames(i), i)
	return class, r
}

// put carries out what P11.2 says of a right put on a disk that is up, call by call.
func (m model) put(t *testing.T, i int, b api.Ballot, x api.Entry) api.Errno {
	t.Helper()
	which := slot.Next(m.record(i), m.frames(i), i)
	f := sealed(t, m.frameTag(i, which), holding(t, b, x), 2)
	p := sealed(t, m.recordTag(i), naming(b.Round, b.Replica, which), 1)
	for _, call := range []func() api.Errno{
		func() api.Errno { return m.d.Write(frameAt(i, which), f[:wide]) },
		func() api.Errno { return m.d.Write(frameAt(i, which)+1, f[wide:]) },
		m.d.Flush,
		func() api.Errno { return m.d.Write(recordAt(i), p) },
		m.d.Flush,
	} {
		if e := call(); e != api.OK {
			return e
		}
	}
	return api.OK
}

func (m model) frameTag(i, which int) tag.Tag {
	return tag.Tag{Replica: m.replica, Region: 4, Place: 2*((i-1)%slots) + which, Index: i, Incarnation: m.incarnation}
}

func (m model) recordTag(i int) tag.Tag {
	return tag.Tag{Replica: m.replica, Region: 3, Place: (i - 1) % slots, Index: i, Incarnation: m.incarnation}
}

// wantModel wants a log to tell all that its definition does.
func wantModel(t *testing.T, l *wal.Log, m model) {
	t.Helper()
	var wanted []api.Report
	for i := m.snap + 1; i <= m.snap+slots; i++ {
		class, r := m.what(i)
		wantSlot(t, l, class, r)
		if class == 2 || class == 3 {
			wanted = append(wanted, r)
		}
	}
	wantAll(t, l, wanted...)
	wantSnap(t, l, m.snap)
}

// content is something that a record, or a frame, may hold, from a sector on, for an index: laid there, or still pending.
type content struct {
	name string
	lay  func(t *testing.T, m model, i, which int)
	over func(t *testing.T, m model, i, which int) []byte
}

var never = content{name: "never written", lay: func(*testing.T, model, int, int) {}}

// bytesOf returns a content of bytes.
func bytesOf(name string, at func(i, which int) int, b func(t *testing.T, m model, i, which int) []byte) content {
	return content{name: name, lay: func(t *testing.T, m model, i, which int) { lay(t, m.d, at(i, which), b(t, m, i, which)) }}
}

// recordOf returns a record of any body, the tag of which is changed.
func recordOf(name string, body []byte, change func(x *tag.Tag)) content {
	return bytesOf(name, recordOnly, func(t *testing.T, m model, i, which int) []byte {
		x := m.recordTag(i)
		change(&x)
		return sealed(t, x, body, 1)
	})
}

func recordOnly(i, _ int) int { return recordAt(i) }

// behind returns a record for an index that is so far behind, or before, that of the slot.
func behind(distance int, b api.Ballot, which int) content {
	return recordOf(fmt.Sprint("record ", distance, b, which), naming(b.Round, b.Replica, which), func(x *tag.Tag) { x.Index = max(0, x.Index+distance) })
}

// frameOf returns a frame of any body, the tag of which is changed.
func frameOf(name string, body []byte, change func(x *tag.Tag)) content {
	return bytesOf(name, frameAt, func(t *testing.T, m model, i, which int) []byte {
		x := m.frameTag(i, which)
		change(&x)
		return sealed(t, x, body, 2)
	})
}

// accepted returns a frame for an index that is so far behind, or before, that of the slot.
func accepted(t *testing.T, distance int, b api.Ballot, x api.Entry) content {
	return frameOf(fmt.Sprint("frame ", distance, b, x), holding(t, b, x), func(x *tag.Tag) { x.Index = max(0, x.Index+distance) })
}

// then returns a content to which something happens.
func (c content) then(name string, happens func(t *testing.T, m model, i, which int)) content {
	return content{name: c.name + ", " + name, lay: func(t *testing.T, m model, i, which int) {
		c.lay(t, m, i, which)
		happens(t, m, i, which)
	}}
}

// pending returns the same content, not flushed, over another one.
func (c content) pending(under content, at func(i, which int) int, sectors int) content {
	return content{name: c.name + " pending over " + under.name, lay: under.lay, over: func(t *testing.T, m model, i, which int) []byte {
		other := m
		other.d = made(t, all)
		c.lay(t, other, i, which)
		b, _ := other.bytes(at(i, which), sectors)
		return b
	}}
}

func losing(at func(i, which int) int, sectors ...int) func(t *testing.T, m model, i, which int) {
	return func(t *testing.T, m model, i, which int) {
		for _, s := range sectors {
			want(t, "lose", m.d.Lose(at(i, which)+s), api.OK)
		}
	}
}

func flipping(at func(i, which int) int, sector, bit int) func(t *testing.T, m model, i, which int) {
	return func(t *testing.T, m model, i, which int) {
		want(t, "flip", m.d.Flip(at(i, which)+sector, bit), api.OK)
	}
}

func same(*tag.Tag) {}

// noRecords holds bodies that are none of a record.
func noRecords() [][]byte {
	form := naming(2, 1, 1)
	return [][]byte{
		nil, {1}, form[:7], form[1:], slices.Concat(form, []byte{0}), slices.Concat(form, form), make([]byte, 8), make([]byte, 43), filled(43, 1),
		naming(0, 1, 1), naming(maxNumber+1, 1, 1), naming(2, 7, 1), naming(2, 1, 2), naming(2, 1, 255),
	}
}

// recordContents returns what the record of a slot may hold.
func recordContents() []content {
	b := ballot(2, 1)
	right := behind(0, b, 1)
	l := []content{
		never,
		bytesOf("zero bytes", recordOnly, func(*testing.T, model, int, int) []byte { return make([]byte, wide) }),
		right.then("lost", losing(recordOnly, 0)),
		never.then("lost", losing(recordOnly, 0)),
		right.then("flipped", flipping(recordOnly, 0, 150)),
		never.then("flipped", flipping(recordOnly, 0, 511)),
		bytesOf("junk", recordOnly, func(*testing.T, model, int, int) []byte { return filled(wide, 3) }),
		recordOf("of another replica", naming(2, 1, 1), func(x *tag.Tag) { x.Replica = (x.Replica + 1) % 7 }),
		recordOf("of the log", naming(2, 1, 1), func(x *tag.Tag) { x.Region = 4 }),
		recordOf("of another place", naming(2, 1, 1), func(x *tag.Tag) { x.Place = (x.Place + 1) % slots }),
		recordOf("of another incarnation", naming(2, 1, 0), func(x *tag.Tag) { x.Incarnation = maxNumber }),
		right, behind(0, b, 0), behind(0, ballot(1, 6), 0), behind(0, ballot(3, 0), 1), behind(0, ballot(maxNumber, 6), 0),
		behind(-24, b, 0), behind(-24, ballot(9, 1), 1), behind(-1, b, 1), behind(1, b, 0), behind(24, ballot(1, 0), 1),
		recordOf("for index 0", naming(2, 1, 1), func(x *tag.Tag) { x.Index = 0 }),
		recordOf("for the greatest index", naming(2, 1, 0), func(x *tag.Tag) { x.Index = maxNumber }),
		right.pending(never, recordOnly, 1), right.pending(behind(24, b, 0).then("lost", losing(recordOnly, 0)), recordOnly, 1), never.pending(right, recordOnly, 1),
	}
	for i, body := range noRecords() {
		l = append(l, recordOf(fmt.Sprint("no record ", i), body, func(x *tag.Tag) { x.Index = max(0, x.Index+[]int{0, 24, -24}[i%3]) }))
	}
	return l
}

// noEntries holds bodies that are none of an entry.
func noEntries(t *testing.T) [][]byte {
	form := holding(t, ballot(9, 0), noop)
	return [][]byte{
		nil, {1}, form[:7], slices.Concat(form, []byte{0}), form[1:], make([]byte, 8), make([]byte, 88), filled(88, 2), naming(2, 1, 3), naming(0, 1, 1), naming(maxNumber+1, 1, 1), naming(9, 7, 1),
		slices.Concat(form[:7], []byte{2, 2, 3, 0, 0, 0, 0, 0, 1, 1, 107, 0, 0}),
	}
}

// frameContents returns what a frame of a slot may hold.
func frameContents(t *testing.T) []content {
	b := ballot(2, 1)
	right, long := accepted(t, 0, b, stored(7, b)), accepted(t, 0, b, longest())
	l := []content{
		never,
		bytesOf("zero bytes", frameAt, func(*testing.T, model, int, int) []byte { return make([]byte, 2*wide) }),
		right.then("first lost", losing(frameAt, 0)),
		right.then("second lost", losing(frameAt, 1)),
		never.then("first lost", losing(frameAt, 0)),
		never.then("second lost", losing(frameAt, 1)),
		right.then("both lost", losing(frameAt, 0, 1)),
		right.then("first flipped", flipping(frameAt, 0, 200)),
		right.then("second flipped", flipping(frameAt, 1, 300)),
		never.then("second flipped", flipping(frameAt, 1, 0)),
		right.then("first blank", func(t *testing.T, m model, i, which int) { lay(t, m.d, frameAt(i, which), make([]byte, wide)) }),
		right.then("second blank", func(t *testing.T, m model, i, which int) { lay(t, m.d, frameAt(i, which)+1, make([]byte, wide)) }),
		long.then("half of another one", func(t *testing.T, m model, i, which int) {
			lay(t, m.d, frameAt(i, which), sealed(t, m.frameTag(i, which), holding(t, b, noop), 2)[:wide])
		}),
		bytesOf("in one sector", frameAt, func(t *testing.T, m model, i, which int) []byte {
			return slices.Concat(sealed(t, m.frameTag(i, which), holding(t, b, noop), 1), make([]byte, wide))
		}),
		never.then("in one sector, second lost", func(t *testing.T, m model, i, which int) {
			lay(t, m.d, frameAt(i, which), sealed(t, m.frameTag(i, which), holding(t, b, noop), 1))
			want(t, "lose", m.d.Lose(frameAt(i, which)+1), api.OK)
		}),
		frameOf("of another replica", holding(t, b, noop), func(x *tag.Tag) { x.Replica = (x.Replica + 6) % 7 }),
		frameOf("of another region", holding(t, b, noop), func(x *tag.Tag) { x.Region, x.Place = 5, x.Place%16 }),
		frameOf("of the other frame", holding(t, b, noop), func(x *tag.Tag) { x.Place ^= 1 }),
		frameOf("of another place", holding(t, b, noop), func(x *tag.Tag) { x.Place = (x.Place + 2) % 48 }),
		frameOf("of another incarnation", holding(t, ballot(2, 2), noop), func(x *tag.Tag) { x.Incarnation = maxNumber - 1 }),
		right, long, accepted(t, 0, b, noop), accepted(t, 0, ballot(1, 6), noop), accepted(t, 0, ballot(3, 0), noop), accepted(t, 0, ballot(maxNumber, 6), noop),
		accepted(t, -24, ballot(9, 0), noop), accepted(t, -1, b, noop), accepted(t, 1, b, noop), accepted(t, 24, ballot(1, 0), noop),
		frameOf("for index 0", holding(t, b, noop), func(x *tag.Tag) { x.Index = 0 }),
		right.pending(never, frameAt, 2), right.pending(long.then("both lost", losing(frameAt, 0, 1)), frameAt, 2), never.pending(right, frameAt, 2),
	}
	for i, body := range noEntries(t) {
		l = append(l, frameOf(fmt.Sprint("no entry ", i), body, func(x *tag.Tag) { x.Index = max(0, x.Index+[]int{0, 24, -24}[i%3]) }))
	}
	return l
}

// laid is a slot that is made of three contents: its record's, and its frames'.
type laid struct {
	i int
	p content
	f [2]content
}

func (s laid) String() string {
	return fmt.Sprintf("index %d: %s; %s; %s", s.i, s.p.name, s.f[0].name, s.f[1].name)
}

// model returns a log on a new disk that holds the slot, and two others.
func (s laid) model(t *testing.T) model {
	t.Helper()
	m := model{made(t, all), s.i % 7, 1 + s.i%5, max(0, s.i-1-s.i%23)}
	s.p.lay(t, m, s.i, 0)
	for which, c := range s.f {
		c.lay(t, m, s.i, which)
	}
	for _, i := range s.others() {
		want(t, "put", m.put(t, i, ballot(3, 3), stored(i, ballot(3, 3))), api.OK)
	}
	for which, c := range s.f {
		pend(t, m, c, s.i, which, frameAt(s.i, which))
	}
	pend(t, m, s.p, s.i, 0, recordAt(s.i))
	return m
}

// others returns the indices beside that of the slot, which are at the places beside its place.
func (s laid) others() []int {
	var l []int
	for _, i := range []int{s.i - 1, s.i + 1} {
		if snap := max(0, s.i-1-s.i%23); snap < i && i <= snap+slots {
			l = append(l, i)
		}
	}
	return l
}

// pend writes what is pending of a content.
func pend(t *testing.T, m model, c content, i, which, first int) {
	t.Helper()
	if c.over == nil {
		return
	}
	b := c.over(t, m, i, which)
	for k := 0; k < len(b); k += wide {
		want(t, "write", m.d.Write(first+k/wide, b[k:k+wide]), api.OK)
	}
}

// indices holds some that are laid.
var indices = []int{1, 2, 23, 24, 25, 26, 47, 48, 49, 255, 256, 1<<32 + 5, 1 << 33}

// TestRead lays each content of a record beside each two of the frames.
func TestRead(t *testing.T) { // P11.3, P11.4
	t.Parallel()
	told := map[uint8]int{}
	n := 0
	fs := frameContents(t)
	for k, p := range recordContents() {
		for a, f0 := range fs {
			for b, f1 := range fs {
				// Each third pair suffices: beside the next record it is another third of them.
				if n++; (a+b+k)%3 != 0 {
					continue
				}
				s := laid{i: indices[n%len(indices)], p: p, f: [2]content{f0, f1}}
				m := s.model(t)
				l := opened(t, m.d, m.replica, 77, m.snap)
				waits := m.d.Waits()
				class, r := m.what(s.i)
				wantSlot(t, l, class, r)
				told[class]++
				wanted := []api.Report{}
				for _, i := range s.others() {
					wantSlot(t, l, slot.Intact, intact(i, ballot(3, 3)))
					wanted = append(wanted, intact(i, ballot(3, 3)))
				}
				if class >= slot.Corrupt {
					wanted = append(wanted, r)
				}
				slices.SortFunc(wanted, func(a, b api.Report) int { return a.Index - b.Index })
				wantAll(t, l, wanted...)
				if m.d.Waits() != waits || !m.d.Up() {
					t.Errorf("%d are pending; want %d", m.d.Waits(), waits)
				}
				if t.Failed() {
					t.Fatalf("%v", s)
				}
			}
		}
	}
	for class := range slot.Intact + 1 {
		if told[class] < 200 {
			t.Errorf("%v", told)
		}
	}
}

// TestRows names what is told of some contents, row by row.
func TestRows(t *testing.T) { // P11.3, P11.4
	b := ballot(2, 1)
	one, two, later := ballot(1, 6), b, ballot(3, 0)
	lostRecord := behind(0, b, 1).then("lost", losing(recordOnly, 0))
	noRecord := func(distance int) content {
		return recordOf("no record", naming(2, 1, 2), func(x *tag.Tag) { x.Index = max(0, x.Index+distance) })
	}
	by := func(x api.Ballot) content { return accepted(t, 0, x, stored(5, x)) }
	noEntry := func(distance int) content {
		return frameOf("no entry", naming(2, 1, 3), func(x *tag.Tag) { x.Index = max(0, x.Index+distance) })
	}
	old, new := accepted(t, -24, later, noop), accepted(t, 24, one, noop)
	secondLost, blankLost := by(two).then("second lost", losing(frameAt, 1)), never.then("second lost", losing(frameAt, 1))
	firstLost := by(two).then("first lost", losing(frameAt, 0))
	for n, c := range []struct {
		p, f0, f1 content
		class     uint8
		report    api.Report
	}{
		{never, never, never, slot.Absent, absent(29)},
		{never, firstLost, never, slot.Torn, absent(29)},
		{never, never, secondLost, slot.Torn, absent(29)},
		{never, blankLost, never, slot.Torn, absent(29)},
		{never, by(one), firstLost, slot.Intact, intactBy(29, one, stored(5, one))},
		{never, by(one), by(two), slot.Intact, intactBy(29, two, stored(5, two))},
		{never, noEntry(0), never, slot.Torn, absent(29)},
		{never, noEntry(24), never, slot.Torn, absent(29)}, // its index does not count
		{never, old, new, slot.Corrupt, blind(29)},
		{never, old, old, slot.Absent, absent(29)},
		{behind(0, two, 1), firstLost, by(two), slot.Intact, intactBy(29, two, stored(5, two))},
		{behind(0, two, 1), by(two), firstLost, slot.Intact, intactBy(29, two, stored(5, two))},
		{behind(0, two, 1), by(later), by(two), slot.Intact, intactBy(29, later, stored(5, later))},
		{behind(0, two, 1), by(one), secondLost, slot.Corrupt, lost(29, two)},
		{behind(0, two, 0), noEntry(0), by(one), slot.Corrupt, lost(29, two)},
		{behind(0, two, 0), never, never, slot.Corrupt, lost(29, two)},
		{behind(0, two, 0), old, new, slot.Corrupt, lost(29, two)},
		{behind(-24, two, 0), never, never, slot.Absent, absent(29)},
		{behind(-24, two, 0), secondLost, never, slot.Torn, absent(29)},
		{behind(-24, two, 0), old, by(one), slot.Intact, intactBy(29, one, stored(5, one))},
		{behind(24, two, 0), by(two), by(later), slot.Corrupt, blind(29)},
		{lostRecord, by(one), never, slot.Intact, intactBy(29, one, stored(5, one))},
		{lostRecord, by(one), by(two), slot.Intact, intactBy(29, two, stored(5, two))},
		{lostRecord, by(one), firstLost, slot.Corrupt, blind(29)},
		{lostRecord, by(one), blankLost, slot.Corrupt, blind(29)},
		{lostRecord, never, old, slot.Absent, absent(29)},
		{lostRecord, never, noEntry(-24), slot.Corrupt, blind(29)},
		{noRecord(0), never, never, slot.Absent, absent(29)},
		{noRecord(24), never, never, slot.Absent, absent(29)}, // its index does not count
		{noRecord(-24), secondLost, never, slot.Corrupt, blind(29)},
		{noRecord(0), by(two), old, slot.Intact, intactBy(29, two, stored(5, two))},
	} {
		s := laid{i: 29, p: c.p, f: [2]content{c.f0, c.f1}}
		m := s.model(t)
		l := opened(t, m.d, m.replica, 1, m.snap)
		wantSlot(t, l, c.class, c.report)
		if class, r := m.what(29); class != c.class || r != c.report {
			t.Errorf("the definition: %d, %v", class, r)
		}
		if t.Failed() {
			t.Fatalf("%d: %v", n, s)
		}
	}
}

// TestEachReplica opens a log of each replica where another one has put.
func TestEachReplica(t *testing.T) { // P11.3, P11.4
	for replica := range 7 {
		d := made(t, all)
		l := opened(t, d, replica, 3, 0)
		wantPut(t, l, 4, ballot(1, 1))
		for other := range 7 {
			x := opened(t, d, other, 1, 0)
			if other == replica {
				wantAll(t, x, intact(4, ballot(1, 1)))
				continue
			}
			wantSlot(t, x, slot.Corrupt, blind(4))
			wantAll(t, x, blind(4))
		}
	}
}

// TestNothingIsKept wants what a log tells to be what the disk holds, whatever it told before.
func TestNothingIsKept(t *testing.T) { // P11.3, P11.4
	d := made(t, all)
	a, b := opened(t, d, 1, 1, 0), opened(t, d, 1, 2, 0)
	wantSlot(t, a, slot.Absent, absent(3))
	wantPut(t, b, 3, ballot(1, 0))
	wantAll(t, a, intact(3, ballot(1, 0)))
	wantPut(t, a, 3, ballot(2, 0))
	wantAll(t, b, intact(3, ballot(2, 0)))
	want(t, "flip", d.Flip(frameAt(3, 1), 160), api.OK)
	wantAll(t, a, lost(3, ballot(2, 0)))
	want(t, "flip", d.Flip(frameAt(3, 1), 160), api.OK)
	wantAll(t, a, intact(3, ballot(2, 0)))
	wantPut(t, b, 3, ballot(3, 0))
	want(t, "flip", d.Flip(frameAt(3, 0), 160), api.OK)
	wantAll(t, a, lost(3, ballot(3, 0)))
	wantPut(t, a, 3, ballot(3, 0))
	wantSlot(t, b, slot.Intact, intact(3, ballot(3, 0)))
	want(t, "Cut", a.Cut(3), api.OK)
	wantPut(t, a, 27, ballot(1, 0))
	wantAll(t, b, blind(3))
	wantAll(t, a, intact(27, ballot(1, 0)))
}
