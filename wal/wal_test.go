package wal_test

import (
	"bytes"
	"fmt"
	"math"
	"slices"
	"strings"
	"testing"

	"sexton/api"
	"sexton/disk"
	"sexton/entry"
	"sexton/frame"
	"sexton/slot"
	"sexton/tag"
	"sexton/wal"
)

const (
	wide      = 64  // bytes of a sector
	all       = 156 // sectors of all regions
	most      = 1024
	slots     = 24
	maxNumber = 1 << 40
	mostSnap  = maxNumber - slots
)

// far holds the numbers that are farthest from all that are right, and some that are right in their lowest bits.
var far = []int{math.MinInt, math.MinInt + 1, math.MinInt + 2, -1 << 48, -1<<40 - 1, -1 << 40, -1<<32 + 1, -256, -24, math.MaxInt - 24, math.MaxInt - 1, math.MaxInt, 1 << 62, 1<<48 + 1, 1<<41 + 3}

var none api.Ballot

func ballot(round, replica int) api.Ballot { return api.Ballot{Round: round, Replica: replica} }

// stored returns an entry that no other index or ballot has.
func stored(i int, b api.Ballot) api.Entry {
	return api.Entry{Kind: api.EnOp, Client: i % 4, Seq: i, Op: api.Op{Kind: api.OpSwap, Key: "key", Old: fmt.Sprintf("%x", i), Value: fmt.Sprintf("%x.%d", b.Round, b.Replica)}}
}

var noop = api.Entry{Kind: api.EnNoop}

// longest returns an entry the body of which is as long as one can be.
func longest() api.Entry {
	text := func(n int) string { return strings.Repeat("\xff", n) }
	return api.Entry{Kind: api.EnOp, Client: 3, Seq: maxNumber, Op: api.Op{Kind: api.OpSwap, Key: text(8), Old: text(16), Value: text(16)}}
}

// intact, lost, blind and absent are short for reports.
func intact(i int, b api.Ballot) api.Report { return intactBy(i, b, stored(i, b)) }

func intactBy(i int, b api.Ballot, x api.Entry) api.Report {
	return api.Report{Index: i, State: 2, Ballot: b, Entry: x}
}

func lost(i int, b api.Ballot) api.Report { return api.Report{Index: i, State: 3, Ballot: b} }

func blind(i int) api.Report { return api.Report{Index: i, State: 4} }

func absent(i int) api.Report { return api.Report{Index: i, State: 1} }

func want(t *testing.T, call string, e, wanted api.Errno) {
	t.Helper()
	if e != wanted {
		t.Errorf("%s: %d; want %d", call, e, wanted)
	}
}

func made(t *testing.T, sectors int) *disk.Disk {
	t.Helper()
	d, e := disk.New(sectors)
	if e != api.OK {
		t.Fatalf("New(%d): %d", sectors, e)
	}
	return d
}

// opened returns a log, which must have been opened.
func opened(t *testing.T, d *disk.Disk, replica, incarnation, snap int) *wal.Log {
	t.Helper()
	l, e := wal.Open(d, replica, incarnation, snap)
	if l == nil || e != api.OK {
		t.Fatalf("Open of %d, %d, %d: %v, %d", replica, incarnation, snap, l, e)
	}
	return l
}

func wantPut(t *testing.T, l *wal.Log, i int, b api.Ballot) {
	t.Helper()
	want(t, fmt.Sprint("Put of ", i, b), l.Put(i, b, stored(i, b)), api.OK)
}

// wantSlot wants Get and Class to tell that of a slot.
func wantSlot(t *testing.T, l *wal.Log, class uint8, wanted api.Report) {
	t.Helper()
	i := wanted.Index
	r, e := l.Get(i)
	c, f := l.Class(i)
	if r != wanted || c != class || e != api.OK || f != api.OK {
		t.Errorf("%d: %d, %v, %d, %d; want %d, %v", i, c, r, e, f, class, wanted)
	}
}

// wantNoSlot wants Get and Class to return an error.
func wantNoSlot(t *testing.T, l *wal.Log, i int, wanted api.Errno) {
	t.Helper()
	if r, e := l.Get(i); r != (api.Report{}) || e != wanted {
		t.Errorf("Get of %d: %v, %d; want %d", i, r, e, wanted)
	}
	if c, e := l.Class(i); c != 0 || e != wanted {
		t.Errorf("Class of %d: %d, %d; want %d", i, c, e, wanted)
	}
}

func wantAll(t *testing.T, l *wal.Log, wanted ...api.Report) {
	t.Helper()
	if rs, e := l.All(); !slices.Equal(rs, wanted) || e != api.OK {
		t.Errorf("All: %v, %d; want %v", rs, e, wanted)
	}
}

func wantNotAll(t *testing.T, l *wal.Log, wanted api.Errno) {
	t.Helper()
	if rs, e := l.All(); rs != nil || e != wanted {
		t.Errorf("All: %v, %d; want %d", rs, e, wanted)
	}
}

func wantSnap(t *testing.T, l *wal.Log, wanted int) {
	t.Helper()
	if n := l.Snap(); n != wanted {
		t.Errorf("Snap: %d; want %d", n, wanted)
	}
}

// recordAt and frameAt return the first sector of what the slot of an index has, as the chapters lay it.
func recordAt(i int) int { return 4 + (i-1)%slots }

func frameAt(i, which int) int { return 28 + 4*((i-1)%slots) + 2*which }

// number returns a number's bytes, the least significant one first.
func number(n, width int) []byte {
	b := make([]byte, width)
	for k := range b {
		b[k] = byte(n >> (8 * k))
	}
	return b
}

// naming returns the body of a record, of any numbers.
func naming(round, replica, which int) []byte {
	return slices.Concat(number(round, 6), number(replica, 1), number(which, 1))
}

// holding returns the body of a frame.
func holding(t *testing.T, b api.Ballot, x api.Entry) []byte {
	t.Helper()
	body, e := entry.Print(b, x)
	if e != api.OK {
		t.Fatalf("entry's Print of %v, %v: %d", b, x, e)
	}
	return body
}

func sealed(t *testing.T, x tag.Tag, body []byte, sectors int) []byte {
	t.Helper()
	b, e := frame.Seal(x, body, sectors)
	if e != api.OK {
		t.Fatalf("Seal of %v, %v: %d", x, body, e)
	}
	return b
}

// lay writes bytes, from a sector on, and flushes.
func lay(t *testing.T, d *disk.Disk, first int, b []byte) {
	t.Helper()
	for k := 0; k < len(b); k += wide {
		want(t, "write", d.Write(first+k/wide, b[k:k+wide]), api.OK)
	}
	want(t, "flush", d.Flush(), api.OK)
}

// filled returns n bytes, none of them zero.
func filled(n int, x byte) []byte {
	b := make([]byte, n)
	for i := range b {
		b[i] = x%128 + byte(i%7) + 1
	}
	return b
}

// view is all that a disk shows.
type view struct {
	size, waits int
	up          bool
	sectors     string
}

func viewOf(d *disk.Disk) view {
	var b bytes.Buffer
	for s := range d.Size() {
		rest, lost, _ := d.Rest(s)
		meant, _ := d.Meant(s)
		told, e := d.Read(s)
		for _, x := range [][]byte{rest, meant, told} {
			b.Write(x)
			b.WriteByte('|')
		}
		fmt.Fprintln(&b, lost, e)
	}
	return view{d.Size(), d.Waits(), d.Up(), b.String()}
}

// wantSame wants a disk to show what it did before.
func wantSame(t *testing.T, d *disk.Disk, before view) {
	t.Helper()
	if viewOf(d) != before {
		t.Errorf("the disk has changed")
	}
}

// stop takes a disk down.
func stop(t *testing.T, d *disk.Disk, keep ...bool) {
	t.Helper()
	want(t, "crash", d.Crash(keep), api.OK)
}

// restart takes a disk down, and up again.
func restart(t *testing.T, d *disk.Disk, keep ...bool) {
	t.Helper()
	stop(t, d, keep...)
	want(t, "start", d.Start(), api.OK)
}

// kill makes a disk dead: its power fails at a write.
func kill(t *testing.T, d *disk.Disk) {
	t.Helper()
	want(t, "power", d.Power(0), api.OK)
	want(t, "flush", d.Flush(), api.ErrDown)
}

// TestExample carries out the chapter's example.
func TestExample(t *testing.T) { // P11.1, P11.2, P11.3, P11.4, P11.5, P11.8
	l := opened(t, made(t, all), 0, 1, 0)
	want(t, "Put", l.Put(1, ballot(1, 0), noop), api.OK)
	wantSlot(t, l, slot.Intact, intactBy(1, ballot(1, 0), noop))
	wantAll(t, l, intactBy(1, ballot(1, 0), noop))
	wantNoSlot(t, l, 25, api.ErrArg)
	want(t, "Cut", l.Cut(8), api.OK)
	wantSlot(t, l, slot.Absent, absent(25))
	wantNoSlot(t, l, 8, api.ErrArg)
	wantAll(t, l)
	wantSnap(t, l, 8)
}

// TestDocument carries out the examples 5 to 7 of the whole, as far as the log has a part in them.
func TestDocument(t *testing.T) { // P11.2, P11.3, P11.6, P11.7
	d := made(t, all)
	l := opened(t, d, 0, 1, 0)
	one, two := ballot(1, 0), ballot(2, 0)
	want(t, "power", d.Power(2), api.OK)
	want(t, "Put", l.Put(3, one, stored(3, one)), api.ErrDown)
	restart(t, d, true, false)
	wantSlot(t, l, slot.Torn, absent(3))
	wantAll(t, l)
	wantPut(t, l, 5, one)
	want(t, "lose", d.Lose(frameAt(5, 0)+1), api.OK)
	wantSlot(t, l, slot.Corrupt, lost(5, one))
	wantPut(t, l, 5, two)
	wantSlot(t, l, slot.Intact, intact(5, two))
	want(t, "lose", d.Lose(frameAt(5, 1)), api.OK)
	want(t, "lose", d.Lose(recordAt(5)), api.OK)
	wantSlot(t, l, slot.Corrupt, blind(5))
	wantAll(t, l, blind(5))
}

// replicas, incarnations and snaps hold numbers, and whether they are right.
var (
	replicas     = map[int]bool{-1: false, 0: true, 1: true, 5: true, 6: true, 7: false, 8: false, 256: false, 1<<32 + 1: false}
	incarnations = map[int]bool{-1: false, 0: false, 1: true, 2: true, 1 << 33: true, maxNumber - 1: true, maxNumber: true, maxNumber + 1: false}
	snaps        = map[int]bool{-1: false, 0: true, 1: true, 8: true, 23: true, 24: true, 1 << 33: true, mostSnap - 1: true, mostSnap: true, mostSnap + 1: false, maxNumber - 8: false, maxNumber: false, maxNumber + 1: false}
)

// numbers returns the numbers of a map in ascending order, and those that are far from all of them.
func numbers(m map[int]bool) []int {
	l := slices.Clone(far)
	for n := range m {
		l = append(l, n)
	}
	slices.Sort(l)
	return l
}

// TestOpen opens logs with each number beside each other one.
func TestOpen(t *testing.T) { // P11.1
	d := made(t, all)
	before := viewOf(d)
	right := 0
	for _, replica := range numbers(replicas) {
		for _, incarnation := range numbers(incarnations) {
			for _, snap := range numbers(snaps) {
				l, e := wal.Open(d, replica, incarnation, snap)
				if replicas[replica] && incarnations[incarnation] && snaps[snap] {
					right++
					if l == nil || e != api.OK || l.Snap() != snap {
						t.Errorf("Open of %d, %d, %d: %v, %d", replica, incarnation, snap, l, e)
					}
				} else if l != nil || e != api.ErrArg {
					t.Errorf("Open of %d, %d, %d: %v, %d; want ErrArg", replica, incarnation, snap, l, e)
				}
			}
		}
	}
	if right != 4*5*8 {
		t.Errorf("%d are right", right)
	}
	wantSame(t, d, before)
}

// TestOpenDisks opens logs on disks of several sizes, on one that is dead, down, or none.
func TestOpenDisks(t *testing.T) { // P11.1
	for size, wanted := range map[int]api.Errno{1: api.ErrArg, 64: api.ErrArg, 155: api.ErrArg, 156: api.OK, 157: api.OK, most: api.OK} {
		down := wanted
		if wanted == api.OK {
			down = api.ErrDown
		}
		d := made(t, size)
		open := func(wanted api.Errno) {
			t.Helper()
			for replica := range 7 {
				if l, e := wal.Open(d, replica, 1, 0); (l != nil) != (e == api.OK) || e != wanted {
					t.Errorf("Open with %d sectors, up: %v: %v, %d; want %d", size, d.Up(), l, e, wanted)
				}
			}
			for _, x := range [][3]int{{7, 1, 0}, {-1, 1, 0}, {0, 0, 0}, {0, maxNumber + 1, 0}, {0, 1, -1}, {0, 1, mostSnap + 1}} {
				if l, e := wal.Open(d, x[0], x[1], x[2]); l != nil || e != api.ErrArg {
					t.Errorf("Open of %v with %d sectors, up: %v: %v, %d; want ErrArg", x, size, d.Up(), l, e)
				}
			}
		}
		open(wanted)
		want(t, "power", d.Power(0), api.OK)
		open(wanted) // that there is no power left is told by a write alone
		want(t, "flush", d.Flush(), api.ErrDown)
		open(down)
		stop(t, d)
		open(down)
		want(t, "start", d.Start(), api.OK)
		open(wanted)
	}
	copied := *made(t, all)
	for _, d := range []*disk.Disk{nil, {}, &copied} {
		for _, x := range [][3]int{{0, 1, 0}, {6, maxNumber, mostSnap}, {7, 1, 0}, {0, 0, 0}, {0, 1, -1}, {-1, -1, -1}} {
			if l, e := wal.Open(d, x[0], x[1], x[2]); l != nil || e != api.ErrNil {
				t.Errorf("Open of %v without a disk: %v, %d", x, l, e)
			}
		}
	}
}

// TestNoLog calls what Open did not return.
func TestNoLog(t *testing.T) { // P1, P11.1, P11.2, P11.3, P11.4, P11.5
	d := made(t, all)
	l := opened(t, d, 0, 1, 8)
	wantPut(t, l, 9, ballot(1, 0))
	copied := *l
	for _, state := range []string{"up", "dead", "down"} {
		switch state {
		case "dead":
			kill(t, d)
		case "down":
			stop(t, d)
		}
		before := viewOf(d)
		for _, x := range []*wal.Log{nil, {}, new(wal.Log), &copied} {
			wantSnap(t, x, 0)
			wantNotAll(t, x, api.ErrNil)
			for _, i := range []int{math.MinInt, -1, 0, 1, 8, 9, 24, 32, 33, math.MaxInt} {
				want(t, "Cut", x.Cut(i), api.ErrNil)
				wantNoSlot(t, x, i, api.ErrNil)
				for _, b := range []api.Ballot{none, ballot(1, 0), ballot(1, 7)} {
					for _, y := range []api.Entry{{}, noop, stored(9, b)} {
						want(t, "Put", x.Put(i, b, y), api.ErrNil)
					}
				}
			}
		}
		wantSame(t, d, before)
	}
	wantSnap(t, l, 8)
}

// TestSnap asks for the snapshot's index on a disk in each state.
func TestSnap(t *testing.T) { // P11.1, P11.5
	d := made(t, all)
	l := opened(t, d, 0, 1, 16)
	wantSnap(t, l, 16)
	kill(t, d)
	wantSnap(t, l, 16)
	want(t, "Cut", l.Cut(17), api.OK)
	wantSnap(t, l, 17)
	stop(t, d)
	wantSnap(t, l, 17)
	want(t, "Cut", l.Cut(41), api.OK)
	want(t, "Cut", l.Cut(40), api.ErrArg)
	wantSnap(t, l, 41)
	want(t, "start", d.Start(), api.OK)
	wantSnap(t, l, 41)
	wantPut(t, l, 65, ballot(1, 1))
	wantSlot(t, l, slot.Intact, intact(65, ballot(1, 1)))
}

// TestCut cuts to the same index, to smaller ones, and to greater ones.
func TestCut(t *testing.T) { // P11.5
	for _, from := range []int{0, 1, 7, 8, 24, 1 << 33, mostSnap - 1, mostSnap} {
		for _, to := range append([]int{-1, 0, 1, 7, 8, 9, 24, 25, 48, 1<<33 - 1, 1 << 33, 1<<33 + 1, mostSnap - 2, mostSnap - 1, mostSnap, mostSnap + 1, maxNumber - 8, maxNumber, from - 1, from, from + 1}, far...) {
			d := made(t, all)
			before := viewOf(d)
			l := opened(t, d, 2, 3, from)
			wanted, snap := api.OK, to
			if to < from || to > mostSnap {
				wanted, snap = api.ErrArg, from
			}
			want(t, fmt.Sprintf("Cut from %d to %d", from, to), l.Cut(to), wanted)
			wantSnap(t, l, snap)
			wantSame(t, d, before)
			wantNoSlot(t, l, snap, api.ErrArg)
			wantSlot(t, l, slot.Absent, absent(snap+1))
			wantSlot(t, l, slot.Absent, absent(snap+slots))
			wantNoSlot(t, l, snap+slots+1, api.ErrArg)
			// It is still there for a cut to the same index, and not for a smaller one.
			want(t, "Cut again", l.Cut(snap), api.OK)
			want(t, "Cut back", l.Cut(snap-1), api.ErrArg)
			wantSnap(t, l, snap)
		}
	}
}

// TestCutLeaves cuts step by step, and wants what is still live to stay.
func TestCutLeaves(t *testing.T) { // P11.4, P11.5, P11.8
	d := made(t, all)
	l := opened(t, d, 4, 2, 0)
	held := map[int]api.Report{}
	for snap := range 100 {
		want(t, "Cut", l.Cut(snap), api.OK)
		for _, i := range []int{snap + 1, snap + 5, snap + 24} {
			// The ballots of later indices are lesser ones.
			b := ballot(1000-i, snap%7)
			if x := held[i]; x.Ballot.Round == b.Round && x.Ballot.Replica > b.Replica {
				b.Replica = 6
			}
			wantPut(t, l, i, b)
			held[i] = intact(i, b)
		}
		var wanted []api.Report
		for i := snap + 1; i <= snap+slots; i++ {
			if r, ok := held[i]; ok {
				wanted = append(wanted, r)
				wantSlot(t, l, slot.Intact, r)
			} else {
				wantSlot(t, l, slot.Absent, absent(i))
			}
		}
		wantAll(t, l, wanted...)
		wantAll(t, opened(t, d, 4, 3, snap), wanted...)
		for _, i := range []int{snap, snap - 1, snap + slots + 1} {
			wantNoSlot(t, l, i, api.ErrArg)
		}
	}
}
