package snap_test

import (
	"bytes"
	"fmt"
	"math"
	"slices"
	"testing"

	"sexton/api"
	"sexton/disk"
	"sexton/frame"
	"sexton/snap"
	"sexton/tag"
)

const (
	wide      = 64  // bytes of a sector
	all       = 156 // sectors of all regions
	size      = 80  // bytes of a chunk
	longest   = 640 // bytes of a snapshot
	maxNumber = 1 << 40
	mostIndex = maxNumber - 24
)

// far holds the numbers that are farthest from all that are right, and some that are right in their lowest bits.
var far = []int{math.MinInt, math.MinInt + 1, math.MinInt + 2, -1 << 48, -1<<40 - 1, -1 << 40, -1<<32 + 1, -256, -255, math.MaxInt - 24, math.MaxInt - 1, math.MaxInt, 1 << 62, 1<<48 + 1, 1<<48 + 9, 1<<41 + 3}

// lengths holds the lengths of snapshots that the chapter's edges name, and some between.
var lengths = []int{0, 1, 2, 79, 80, 81, 159, 160, 161, 240, 241, 400, 559, 560, 561, 639, 640}

// varied returns so many bytes, in which no two chunks are alike; no two seeds have the same.
func varied(n, seed int) []byte {
	b := make([]byte, n)
	for i := range b {
		b[i] = byte(i*7 + i/size*31 + seed*101 + 1)
	}
	return b
}

// chunksOf and couldBe are the definitions of chapter 12, told anew.
func chunksOf(b []byte) [][]byte {
	if len(b) <= size {
		return [][]byte{b}
	}
	return append([][]byte{b[:size]}, chunksOf(b[size:])...)
}

func couldBe(count, k, length int) bool {
	switch {
	case k < 0 || k >= count:
		return false
	case k < count-1:
		return length == 80
	case count > 1:
		return length >= 1 && length <= 80
	default:
		return length >= 0 && length <= 80
	}
}

func want(t *testing.T, call string, e, wanted api.Errno) {
	t.Helper()
	if e != wanted {
		t.Errorf("%s: %d; want %d", call, e, wanted)
	}
}

func made(t *testing.T, sectors int) *disk.Disk {
	t.Helper()
	d, e := disk.New(sectors)
	if e != api.OK {
		t.Fatalf("New(%d): %d", sectors, e)
	}
	return d
}

// opened returns a shelf, which must have been opened.
func opened(t *testing.T, d *disk.Disk, replica, incarnation int) *snap.Shelf {
	t.Helper()
	s, e := snap.Open(d, replica, incarnation)
	if s == nil || e != api.OK {
		t.Fatalf("Open of %d, %d: %v, %d", replica, incarnation, s, e)
	}
	return s
}

func wantNotOpened(t *testing.T, d *disk.Disk, replica, incarnation int, wanted api.Errno) {
	t.Helper()
	if s, e := snap.Open(d, replica, incarnation); s != nil || e != wanted {
		t.Errorf("Open of %d, %d: %v, %d; want %d", replica, incarnation, s, e, wanted)
	}
}

func wantInstall(t *testing.T, s *snap.Shelf, index int, b []byte) {
	t.Helper()
	before := slices.Clone(b)
	want(t, fmt.Sprintf("Install of %d, %d bytes", index, len(b)), s.Install(index, b), api.OK)
	if !bytes.Equal(b, before) {
		t.Errorf("Install has changed its %d bytes", len(b))
	}
}

func wantMend(t *testing.T, s *snap.Shelf, k int, c []byte) {
	t.Helper()
	before := slices.Clone(c)
	want(t, fmt.Sprintf("Mend of %d, %d bytes", k, len(c)), s.Mend(k, c), api.OK)
	if !bytes.Equal(c, before) {
		t.Errorf("Mend has changed its %d bytes", len(c))
	}
}

// told is what a shelf tells of itself, without its disk.
type told struct{ index, count int }

func wantTold(t *testing.T, s *snap.Shelf, index, count int) {
	t.Helper()
	if x := (told{s.Index(), s.Count()}); x != (told{index, count}) {
		t.Errorf("told: %v; want %d, %d", x, index, count)
	}
}

func wantHurt(t *testing.T, s *snap.Shelf, wanted ...int) {
	t.Helper()
	if ks := s.Hurt(); !slices.Equal(ks, wanted) {
		t.Errorf("Hurt: %v; want %v", ks, wanted)
	}
}

func wantChunk(t *testing.T, s *snap.Shelf, k int, wanted []byte) {
	t.Helper()
	if c, e := s.Chunk(k); e != api.OK || !bytes.Equal(c, wanted) {
		t.Errorf("Chunk of %d: %v, %d; want %v", k, c, e, wanted)
	}
}

func wantNoChunk(t *testing.T, s *snap.Shelf, k int, wanted api.Errno) {
	t.Helper()
	if c, e := s.Chunk(k); e != wanted || c != nil {
		t.Errorf("Chunk of %d: %v, %d; want %d", k, c, e, wanted)
	}
}

func wantBytes(t *testing.T, s *snap.Shelf, wanted []byte) {
	t.Helper()
	if b, e := s.Bytes(); e != api.OK || !bytes.Equal(b, wanted) {
		t.Errorf("Bytes: %v, %d; want %v", b, e, wanted)
	}
}

func wantNoBytes(t *testing.T, s *snap.Shelf, wanted api.Errno) {
	t.Helper()
	if b, e := s.Bytes(); e != wanted || b != nil {
		t.Errorf("Bytes: %v, %d; want %d", b, e, wanted)
	}
}

// wantHolds wants a shelf to hold a snapshot, of whose chunks some are hurt.
func wantHolds(t *testing.T, s *snap.Shelf, index int, b []byte, hurt ...int) {
	t.Helper()
	l := chunksOf(b)
	if index == 0 {
		l = nil
	}
	wantTold(t, s, index, len(l))
	wantHurt(t, s, hurt...)
	for k, c := range l {
		if slices.Contains(hurt, k) {
			wantNoChunk(t, s, k, api.ErrSnap)
		} else {
			wantChunk(t, s, k, c)
		}
	}
	for _, k := range append([]int{-1, len(l), len(l) + 1, 8}, far...) {
		wantNoChunk(t, s, k, api.ErrArg)
	}
	if len(hurt) > 0 {
		wantNoBytes(t, s, api.ErrSnap)
	} else {
		wantBytes(t, s, b)
	}
}

// wantDown wants a shelf to tell that its disk is not up.
func wantDown(t *testing.T, s *snap.Shelf, index, count int) {
	t.Helper()
	wantTold(t, s, index, count)
	var ks []int
	for k := range count {
		ks = append(ks, k)
		wantNoChunk(t, s, k, api.ErrDown)
	}
	wantHurt(t, s, ks...)
	for _, k := range append([]int{-1, count, count + 1, 8}, far...) {
		wantNoChunk(t, s, k, api.ErrArg)
	}
	wantNoBytes(t, s, api.ErrDown)
}

// chunkAt returns the first sector of a chunk of an area, and manifestAt that of a copy of the manifest, as the chapters lay them.
func chunkAt(area, k int) int { return 124 + 2*(8*area+k) }

func manifestAt(copied int) int { return 2 + copied }

// number returns a number's bytes, the least significant one first.
func number(n, width int) []byte {
	b := make([]byte, width)
	for k := range b {
		b[k] = byte(n >> (8 * k))
	}
	return b
}

// describing returns the body of a manifest, of any numbers.
func describing(index, area, count int) []byte {
	return slices.Concat(number(index, 6), number(area, 1), number(count, 1))
}

func sealed(t *testing.T, x tag.Tag, body []byte, sectors int) []byte {
	t.Helper()
	b, e := frame.Seal(x, body, sectors)
	if e != api.OK {
		t.Fatalf("Seal of %v, %v: %d", x, body, e)
	}
	return b
}

// write writes bytes, from a sector on.
func write(t *testing.T, d *disk.Disk, first int, b []byte) {
	t.Helper()
	for k := 0; k < len(b); k += wide {
		want(t, "write", d.Write(first+k/wide, b[k:k+wide]), api.OK)
	}
}

// lay writes bytes, from a sector on, and flushes.
func lay(t *testing.T, d *disk.Disk, first int, b []byte) {
	t.Helper()
	write(t, d, first, b)
	want(t, "flush", d.Flush(), api.OK)
}

// filled returns n bytes, none of them zero.
func filled(n int, x byte) []byte {
	b := make([]byte, n)
	for i := range b {
		b[i] = x%128 + byte(i%7) + 1
	}
	return b
}

// view is all that a disk shows.
type view struct {
	size, waits int
	up          bool
	sectors     string
}

func viewOf(d *disk.Disk) view {
	var b bytes.Buffer
	for s := range d.Size() {
		rest, lost, _ := d.Rest(s)
		meant, _ := d.Meant(s)
		told, e := d.Read(s)
		for _, x := range [][]byte{rest, meant, told} {
			b.Write(x)
			b.WriteByte('|')
		}
		fmt.Fprintln(&b, lost, e)
	}
	return view{d.Size(), d.Waits(), d.Up(), b.String()}
}

// wantSame wants a disk to show what it did before.
func wantSame(t *testing.T, d *disk.Disk, before view) {
	t.Helper()
	if viewOf(d) != before {
		t.Errorf("the disk has changed")
	}
}

// wantTwins wants two disks to show the same.
func wantTwins(t *testing.T, when string, d, twin *disk.Disk) {
	t.Helper()
	if viewOf(d) == viewOf(twin) {
		return
	}
	t.Errorf("%s: up: %v, %d are pending; want %v, %d", when, d.Up(), d.Waits(), twin.Up(), twin.Waits())
	for s := range all {
		x, xLost, _ := d.Rest(s)
		y, yLost, _ := twin.Rest(s)
		if !bytes.Equal(x, y) || xLost != yLost {
			t.Errorf("%s: sector %d is not as it should be", when, s)
		}
	}
}

// stop takes a disk down.
func stop(t *testing.T, d *disk.Disk, keep ...bool) {
	t.Helper()
	want(t, "crash", d.Crash(keep), api.OK)
}

// restart takes a disk down, and up again.
func restart(t *testing.T, d *disk.Disk, keep ...bool) {
	t.Helper()
	stop(t, d, keep...)
	want(t, "start", d.Start(), api.OK)
}

// kill makes a disk dead: its power fails at a write.
func kill(t *testing.T, d *disk.Disk) {
	t.Helper()
	want(t, "power", d.Power(0), api.OK)
	want(t, "flush", d.Flush(), api.ErrDown)
}

// keeps returns all ways of keeping or dropping so many pending writes.
func keeps(waits int) [][]bool {
	l := [][]bool{nil}
	for range waits {
		var longer [][]bool
		for _, k := range l {
			longer = append(longer, append(slices.Clone(k), false), append(slices.Clone(k), true))
		}
		l = longer
	}
	return l
}

// subset returns those numbers below n whose bit is set.
func subset(n, bits int) []int {
	var l []int
	for k := range n {
		if bits>>k&1 != 0 {
			l = append(l, k)
		}
	}
	return l
}

// TestExample carries out the chapter's example.
func TestExample(t *testing.T) { // P13.1, P13.2, P13.3, P13.4, P13.6, P13.7
	d := made(t, all)
	s := opened(t, d, 0, 1)
	wantHolds(t, s, 0, nil)
	b := varied(81, 1)
	wantInstall(t, s, 8, b)
	wantHolds(t, s, 8, b)
	wantTold(t, s, 8, 2)
	for behind := range 2 {
		want(t, "lose", d.Lose(chunkAt(0, 1)+behind), api.OK)
		wantHolds(t, s, 8, b, 1)
		wantMend(t, s, 1, b[80:])
		wantHolds(t, s, 8, b)
	}
	want(t, "Install", s.Install(8, b), api.ErrArg)
	wantHolds(t, opened(t, d, 0, 2), 8, b)
}

// TestDocument carries out the examples 9 and 10 of the whole, as far as a shelf has a part in them.
func TestDocument(t *testing.T) { // P13.2, P13.3, P13.4, P13.7
	d, other := made(t, all), made(t, all)
	s, from := opened(t, d, 0, 1), opened(t, other, 1, 1)
	b := varied(300, 8)
	wantInstall(t, s, 8, b)
	wantInstall(t, from, 8, b)
	want(t, "flip", d.Flip(chunkAt(0, 2), 200), api.OK)
	s = opened(t, d, 0, 2)
	wantHolds(t, s, 8, b, 2)
	c, e := from.Chunk(2)
	want(t, "Chunk", e, api.OK)
	wantMend(t, s, 2, c)
	wantHolds(t, s, 8, b)
	later := varied(640, 16)
	wantInstall(t, from, 16, later)
	whole, e := from.Bytes()
	want(t, "Bytes", e, api.OK)
	wantInstall(t, s, 16, whole)
	wantHolds(t, opened(t, d, 0, 3), 16, later)
}

// TestNoShelf calls what Open did not return, with the disk in each state.
func TestNoShelf(t *testing.T) { // P1, P13.1, P13.2, P13.3, P13.4
	d := made(t, all)
	s := opened(t, d, 0, 1)
	wantInstall(t, s, 8, varied(100, 1))
	want(t, "lose", d.Lose(chunkAt(0, 1)), api.OK)
	copied := *s
	for _, state := range []string{"up", "dead", "down"} {
		switch state {
		case "dead":
			kill(t, d)
		case "down":
			stop(t, d)
		}
		before := viewOf(d)
		for _, x := range []*snap.Shelf{nil, {}, new(snap.Shelf), &copied} {
			wantTold(t, x, 0, 0)
			if ks := x.Hurt(); ks != nil {
				t.Errorf("Hurt: %v", ks)
			}
			wantNoBytes(t, x, api.ErrNil)
			for _, i := range append([]int{-1, 0, 1, 2, 7, 8, 9, 16, mostIndex, mostIndex + 1}, far...) {
				wantNoChunk(t, x, i, api.ErrNil)
				for _, n := range []int{0, 1, 20, 80, 81, 640, 641} {
					want(t, "Install", x.Install(i, varied(n, 3)), api.ErrNil)
					want(t, "Mend", x.Mend(i, varied(n, 3)), api.ErrNil)
				}
			}
		}
		wantSame(t, d, before)
	}
	wantTold(t, s, 8, 2)
}

// TestAnyArguments calls everything with numbers that are far from all that is right.
func TestAnyArguments(t *testing.T) { // P1
	d := made(t, all)
	s := opened(t, d, 0, 1)
	numbers := append([]int{-1, 0, 1, 7, 8, mostIndex, mostIndex + 1, maxNumber}, far...)
	for range 2 {
		for _, i := range numbers {
			for _, n := range numbers {
				snap.Open(d, i, n)
			}
			for _, n := range []int{0, 1, 79, 80, 81, 640, 641, 1 << 16} {
				s.Mend(i, make([]byte, n))
				s.Install(i, make([]byte, n))
			}
			s.Chunk(i)
		}
		s.Hurt()
		s.Bytes()
		restart(t, d)
	}
	wantTold(t, s, mostIndex, 1)
}
