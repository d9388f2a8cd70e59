package snap_test

import (
	"fmt"
	"slices"
	"testing"

	"sexton/api"
	"sexton/cell"
	"sexton/disk"
	"sexton/frame"
	"sexton/tag"
)

// kept is a snapshot that lies on a replica's disk: its index, its area, and its bytes.
type kept struct {
	replica, index, area int
	b                    []byte
}

// count returns the number of chunks; the initial snapshot, which has index 0, has none.
func (x kept) count() int {
	if x.index == 0 {
		return 0
	}
	return len(chunksOf(x.b))
}

func (x kept) place(k int) int { return 8*x.area + k }

// tag returns the tag of a chunk.
func (x kept) tag(k int) tag.Tag {
	return tag.Tag{Replica: x.replica, Region: 5, Place: x.place(k), Index: x.index, Incarnation: 3}
}

// frame returns the frame of a chunk.
func (x kept) frame(t *testing.T, k int) []byte {
	t.Helper()
	return sealed(t, x.tag(k), slices.Concat([]byte{byte(x.count())}, chunksOf(x.b)[k]), 2)
}

// disk returns a disk that the snapshot was laid on by hand, and not by a shelf.
func (x kept) disk(t *testing.T) *disk.Disk {
	t.Helper()
	d := made(t, all)
	for k := range x.count() {
		lay(t, d, chunkAt(x.area, k), x.frame(t, k))
	}
	want(t, "store", cell.Store(d, x.replica, 2, 1, describing(x.index, x.area, x.count())), api.OK)
	return d
}

// content is something that the place of a chunk may hold, and whether the chunk is hurt by it.
type content struct {
	name string
	lay  func(t *testing.T, d *disk.Disk, x kept, k int)
	hurt bool
}

// framed returns a content of a frame with another tag.
func framed(name string, hurt bool, change func(y *tag.Tag)) content {
	return content{name, func(t *testing.T, d *disk.Disk, x kept, k int) {
		y := x.tag(k)
		change(&y)
		lay(t, d, chunkAt(x.area, k), sealed(t, y, slices.Concat([]byte{byte(x.count())}, chunksOf(x.b)[k]), 2))
	}, hurt}
}

// first and second lay one sector of a chunk's place.
func first(t *testing.T, d *disk.Disk, x kept, k int, b []byte) {
	t.Helper()
	lay(t, d, chunkAt(x.area, k), b[:wide])
}

func second(t *testing.T, d *disk.Disk, x kept, k int, b []byte) {
	t.Helper()
	lay(t, d, chunkAt(x.area, k)+1, b[len(b)-wide:])
}

// contents returns what the place of a chunk of a snapshot may hold.
func contents(x kept) []content {
	other := func(t *testing.T, x kept, k int) []byte {
		return sealed(t, x.tag(k), slices.Concat([]byte{byte(x.count())}, filled(len(chunksOf(x.b)[k]), 200)), 2)
	}
	l := []content{
		{"right", func(*testing.T, *disk.Disk, kept, int) {}, false},
		framed("of another incarnation", false, func(y *tag.Tag) { y.Incarnation = maxNumber }),
		{"blank", func(t *testing.T, d *disk.Disk, x kept, k int) {
			lay(t, d, chunkAt(x.area, k), make([]byte, 2*wide))
		}, true},
		{"first lost", func(t *testing.T, d *disk.Disk, x kept, k int) {
			want(t, "lose", d.Lose(chunkAt(x.area, k)), api.OK)
		}, true},
		{"second lost", func(t *testing.T, d *disk.Disk, x kept, k int) {
			want(t, "lose", d.Lose(chunkAt(x.area, k)+1), api.OK)
		}, true},
		{"both lost", func(t *testing.T, d *disk.Disk, x kept, k int) {
			want(t, "lose", d.Lose(chunkAt(x.area, k)), api.OK)
			want(t, "lose", d.Lose(chunkAt(x.area, k)+1), api.OK)
		}, true},
		{"first blank", func(t *testing.T, d *disk.Disk, x kept, k int) { first(t, d, x, k, make([]byte, wide)) }, true},
		{"second blank", func(t *testing.T, d *disk.Disk, x kept, k int) { second(t, d, x, k, make([]byte, wide)) }, true},
		{"junk", func(t *testing.T, d *disk.Disk, x kept, k int) { lay(t, d, chunkAt(x.area, k), filled(2*wide, 3)) }, true},
		{"in one sector", func(t *testing.T, d *disk.Disk, x kept, k int) {
			lay(t, d, chunkAt(x.area, k), slices.Concat(sealed(t, x.tag(k), []byte{byte(x.count()), 7}, 1), make([]byte, wide)))
		}, true},
		{"in one sector, second lost", func(t *testing.T, d *disk.Disk, x kept, k int) {
			lay(t, d, chunkAt(x.area, k), sealed(t, x.tag(k), []byte{byte(x.count()), 7}, 1))
			want(t, "lose", d.Lose(chunkAt(x.area, k)+1), api.OK)
		}, true},
		{"swapped", func(t *testing.T, d *disk.Disk, x kept, k int) {
			b := x.frame(t, k)
			lay(t, d, chunkAt(x.area, k), slices.Concat(b[wide:], b[:wide]))
		}, true},
		framed("of another replica", true, func(y *tag.Tag) { y.Replica = (y.Replica + 1) % 7 }),
		framed("of the log", true, func(y *tag.Tag) { y.Region = 4 }),
		framed("of the chunk behind", true, func(y *tag.Tag) { y.Place = (y.Place + 1) % 16 }),
		framed("of the chunk before", true, func(y *tag.Tag) { y.Place = (y.Place + 15) % 16 }),
		framed("of the other area", true, func(y *tag.Tag) { y.Place = (y.Place + 8) % 16 }),
		framed("of an index that is less", true, func(y *tag.Tag) { y.Index-- }),
		framed("of an index that is greater", true, func(y *tag.Tag) { y.Index++ }),
		framed("of index 0", true, func(y *tag.Tag) { y.Index = 0 }),
		framed("of the greatest index", true, func(y *tag.Tag) { y.Index = maxNumber }),
		{"right, not flushed, over a lost one", func(t *testing.T, d *disk.Disk, x kept, k int) {
			want(t, "lose", d.Lose(chunkAt(x.area, k)), api.OK)
			want(t, "lose", d.Lose(chunkAt(x.area, k)+1), api.OK)
			write(t, d, chunkAt(x.area, k), x.frame(t, k))
		}, false},
		{"blank, not flushed", func(t *testing.T, d *disk.Disk, x kept, k int) {
			write(t, d, chunkAt(x.area, k), make([]byte, 2*wide))
		}, true},
	}
	// A chunk of no bytes has no half that differs from that of another one.
	if len(x.b) > 0 {
		l = append(l, content{"the first half of another one, not flushed", func(t *testing.T, d *disk.Disk, x kept, k int) {
			write(t, d, chunkAt(x.area, k), other(t, x, k)[:wide])
		}, true})
	}
	return l
}

// snapshots returns snapshots of each number of chunks.
func snapshots() []kept {
	var l []kept
	for i, n := range []int{0, 1, 79, 80, 81, 160, 161, 240, 320, 400, 479, 480, 560, 561, 639, 640} {
		l = append(l, kept{replica: i % 7, index: []int{1, 8, 16, 1 << 33, mostIndex}[i%5], area: i / 2 % 2, b: varied(n, i)})
	}
	return l
}

// TestContents lays each content at the place of each chunk of each snapshot.
func TestContents(t *testing.T) { // P13.2, P13.6
	for _, x := range snapshots() {
		for _, c := range contents(x) {
			for k := range x.count() {
				d := x.disk(t)
				s := opened(t, d, x.replica, 9)
				c.lay(t, d, x, k)
				before := viewOf(d)
				var hurt []int
				if c.hurt {
					hurt = []int{k}
				}
				wantHolds(t, s, x.index, x.b, hurt...)
				wantSame(t, d, before)
				// Whether they are flushed or not is the same.
				want(t, "flush", d.Flush(), api.OK)
				wantHolds(t, opened(t, d, x.replica, 10), x.index, x.b, hurt...)
				if t.Failed() {
					t.Fatalf("%v, chunk %d: %s", x, k, c.name)
				}
			}
		}
	}
}

// TestBodies lays frames of bodies of each number of chunks beside several lengths at the place of each chunk.
func TestBodies(t *testing.T) { // P13.2, P13.6
	for _, x := range snapshots() {
		d := x.disk(t)
		s := opened(t, d, x.replica, 9)
		for k := range x.count() {
			for _, count := range []int{0, 1, 2, 3, 4, 5, 6, 7, 8, 9, 16, 255, 256 - x.count()} {
				for _, n := range []int{0, 1, 2, 41, 42, 43, 78, 79, 80, 81, 82, 87} {
					body := slices.Concat([]byte{byte(count)}, filled(n, byte(count+k)))
					lay(t, d, chunkAt(x.area, k), sealed(t, x.tag(k), body, 2))
					if count == x.count() && couldBe(count, k, n) {
						wantHurt(t, s)
						wantChunk(t, s, k, body[1:])
						l := slices.Clone(chunksOf(x.b))
						l[k] = body[1:]
						wantBytes(t, s, slices.Concat(l...))
					} else {
						wantHurt(t, s, k)
						wantNoChunk(t, s, k, api.ErrSnap)
						wantNoBytes(t, s, api.ErrSnap)
					}
					if t.Failed() {
						t.Fatalf("%v, chunk %d: %d of %d", x, k, n, count)
					}
				}
			}
			lay(t, d, chunkAt(x.area, k), sealed(t, x.tag(k), nil, 2))
			wantHolds(t, s, x.index, x.b, k)
			lay(t, d, chunkAt(x.area, k), x.frame(t, k))
			wantHolds(t, s, x.index, x.b)
		}
	}
}

// TestBits flips each bit of each chunk, and of the places beside those.
func TestBits(t *testing.T) { // P13.2, P13.6
	for _, x := range []kept{{2, 8, 0, varied(81, 1)}, {3, 24, 1, varied(30, 2)}, {3, 24, 1, nil}} {
		d := x.disk(t)
		s := opened(t, d, x.replica, 9)
		for sector := chunkAt(0, 0); sector < all; sector++ {
			var hurt []int
			if k := (sector - chunkAt(x.area, 0)) / 2; sector >= chunkAt(x.area, 0) && k < x.count() {
				hurt = []int{k}
			}
			for bit := range 512 {
				want(t, "flip", d.Flip(sector, bit), api.OK)
				wantHurt(t, s, hurt...)
				if hurt == nil {
					wantBytes(t, s, x.b)
				} else {
					wantNoBytes(t, s, api.ErrSnap)
					wantNoChunk(t, s, hurt[0], api.ErrSnap)
				}
				want(t, "flip", d.Flip(sector, bit), api.OK)
			}
		}
		wantHolds(t, s, x.index, x.b)
	}
}

// TestSomeHurt hurts each choice of the chunks of snapshots of each number of chunks.
func TestSomeHurt(t *testing.T) { // P13.2
	for _, x := range snapshots() {
		for bits := range 1 << x.count() {
			d := x.disk(t)
			hurt := subset(x.count(), bits)
			for i, k := range hurt {
				want(t, "lose", d.Lose(chunkAt(x.area, k)+(i+bits)%2), api.OK)
			}
			wantHolds(t, opened(t, d, x.replica, 4), x.index, x.b, hurt...)
			if t.Failed() {
				t.Fatalf("%v: %v", x, hurt)
			}
		}
	}
}

// TestStates asks with the disk in each state.
func TestStates(t *testing.T) { // P13.1, P13.2
	for _, x := range snapshots() {
		d := x.disk(t)
		s := opened(t, d, x.replica, 1)
		wantHolds(t, s, x.index, x.b)
		want(t, "power", d.Power(0), api.OK)
		wantHolds(t, s, x.index, x.b)
		want(t, "flush", d.Flush(), api.ErrDown)
		wantDown(t, s, x.index, x.count())
		stop(t, d)
		wantDown(t, s, x.index, x.count())
		want(t, "lose", d.Lose(chunkAt(x.area, 0)), api.OK)
		wantDown(t, s, x.index, x.count())
		want(t, "start", d.Start(), api.OK)
		wantHolds(t, s, x.index, x.b, 0)
	}
	d := made(t, all)
	s := opened(t, d, 0, 1)
	wantHolds(t, s, 0, nil)
	kill(t, d)
	wantDown(t, s, 0, 0)
	stop(t, d)
	wantDown(t, s, 0, 0)
	want(t, "start", d.Start(), api.OK)
	wantHolds(t, s, 0, nil)
}

// TestInitialHoldsNothing wants the initial snapshot to be whole whatever lies where chunks do.
func TestInitialHoldsNothing(t *testing.T) { // P13.1, P13.2
	d := made(t, all)
	s := opened(t, d, 0, 1)
	for sector := chunkAt(0, 0); sector < all; sector++ {
		lay(t, d, sector, filled(wide, byte(sector)))
		if sector%3 == 0 {
			want(t, "lose", d.Lose(sector), api.OK)
		}
	}
	wantHolds(t, s, 0, nil)
	wantHolds(t, opened(t, d, 0, 2), 0, nil)
}

// TestWhatIsToldIsTheCallersOwn changes what was told.
func TestWhatIsToldIsTheCallersOwn(t *testing.T) { // P13.2
	x := kept{1, 8, 0, varied(200, 7)}
	d := x.disk(t)
	want(t, "lose", d.Lose(chunkAt(0, 2)), api.OK)
	s := opened(t, d, 1, 1)
	spoil := func(b []byte) {
		b = b[:cap(b)]
		for i := range b {
			b[i] ^= 0xa5
		}
	}
	for range 2 {
		c, _ := s.Chunk(1)
		again, _ := s.Chunk(1)
		spoil(c)
		if !slices.Equal(again, x.b[80:160]) {
			t.Errorf("a chunk that was told has changed")
		}
		ks, others := s.Hurt(), s.Hurt()
		ks[0] = 7
		if !slices.Equal(others, []int{2}) {
			t.Errorf("what was told to be hurt has changed")
		}
		wantHolds(t, s, 8, x.b, 2)
	}
	wantMend(t, s, 2, x.b[160:])
	b, _ := s.Bytes()
	again, _ := s.Bytes()
	spoil(b)
	if !slices.Equal(again, x.b) {
		t.Errorf("bytes that were told have changed")
	}
	wantHolds(t, s, 8, x.b)
}

// TestOneShelfOfTwo opens two shelves on a disk: what one installs is not the other one's.
func TestOneShelfOfTwo(t *testing.T) { // P13.2, P13.3
	d := made(t, all)
	a := opened(t, d, 0, 1)
	wantInstall(t, a, 8, varied(170, 1))
	b := opened(t, d, 0, 2)
	wantInstall(t, b, 16, varied(90, 2))
	wantHolds(t, a, 8, varied(170, 1))
	wantHolds(t, b, 16, varied(90, 2))
	wantInstall(t, b, 24, varied(90, 3))
	wantHolds(t, a, 8, varied(170, 1), 0, 1)
	wantHolds(t, b, 24, varied(90, 3))
}

// TestContentsAreWhatTheySay holds the contents that the other tests lay against layer 4.
func TestContentsAreWhatTheySay(t *testing.T) {
	for _, x := range snapshots() {
		if state, y, body := frame.Mine(x.frame(t, 0), x.replica, 5, x.place(0)); state != frame.Good || y != x.tag(0) || len(body) != 1+len(chunksOf(x.b)[0]) {
			t.Errorf("%v: %d, %v, %v", x, state, y, body)
		}
	}
}

// TestEachIndex opens snapshots of many indices in both areas.
func TestEachIndex(t *testing.T) { // P13.1, P13.2
	for _, index := range []int{1, 2, 7, 8, 9, 255, 256, 1 << 16, 1 << 32, 1<<32 + 1, mostIndex - 1, mostIndex} {
		for area := range 2 {
			x := kept{5, index, area, varied(index%500+100, index)}
			wantHolds(t, opened(t, x.disk(t), 5, 1), index, x.b)
			other := x
			other.area = 1 - area
			d := x.disk(t)
			// What the other area holds has no part in it.
			for k := range other.count() {
				lay(t, d, chunkAt(other.area, k), other.frame(t, k))
				want(t, "lose", d.Lose(chunkAt(other.area, k)+k%2), api.OK)
			}
			wantHolds(t, opened(t, d, 5, 1), index, x.b)
			if t.Failed() {
				t.Fatal(fmt.Sprint(index, area))
			}
		}
	}
}
