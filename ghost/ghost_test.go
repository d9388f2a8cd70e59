package ghost_test

import (
	"bytes"
	"math"
	"math/rand"
	"slices"
	"testing"

	"sexton/api"
	"sexton/disk"
	"sexton/frame"
	"sexton/ghost"
	"sexton/tag"
)

const (
	wide = 64  // bytes of a sector
	all  = 156 // sectors of all regions
	most = 1024
)

// region is where the chapters have a region's places lie.
type region struct{ number, first, places, sectors int }

var regions = []region{{1, 0, 2, 1}, {2, 2, 2, 1}, {3, 4, 24, 1}, {4, 28, 48, 2}, {5, 124, 16, 2}}

// spot is a place, and its first sector and the number of them.
type spot struct{ region, place, first, sectors int }

// spots returns all places, in the order in which they lie on a disk.
func spots() []spot {
	var l []spot
	for _, r := range regions {
		for p := range r.places {
			l = append(l, spot{r.number, p, r.first + p*r.sectors, r.sectors})
		}
	}
	return l
}

// find returns one place.
func find(t *testing.T, region, place int) spot {
	t.Helper()
	for _, s := range spots() {
		if s.region == region && s.place == place {
			return s
		}
	}
	t.Fatalf("no place %d %d", region, place)
	return spot{}
}

// sizes holds the numbers of sectors that the chapter's bounds single out, and allSizes those that have all regions.
var (
	sizes    = []int{1, 155, 156, 157, most}
	allSizes = []int{156, 157, most}
)

var wrongReplicas = []int{math.MinInt, math.MinInt + 1, -1 << 32, -7, -2, -1, 7, 8, 256, 1 << 16, 1 << 32, 1<<32 + 1, math.MaxInt - 1, math.MaxInt}

// wrongPlaces returns a region and a place, of which there is none.
func wrongPlaces() [][2]int {
	far := []int{math.MinInt, math.MinInt + 1, -1 << 32, -256, -2, -1, 256, 1 << 16, 1 << 32, 1<<32 + 1, math.MaxInt - 1, math.MaxInt}
	var l [][2]int
	for _, r := range append(far, 0, 6, 7) {
		for _, p := range append(far, 0, 1, 15, 23, 47) {
			l = append(l, [2]int{r, p})
		}
	}
	for _, r := range regions {
		for _, p := range append(far, r.places, r.places+1) {
			l = append(l, [2]int{r.number, p})
		}
	}
	return l
}

func want(t *testing.T, call string, e, wanted api.Errno) {
	t.Helper()
	if e != wanted {
		t.Errorf("%s: %d; want %d", call, e, wanted)
	}
}

func made(t *testing.T, sectors int) *disk.Disk {
	t.Helper()
	d, e := disk.New(sectors)
	if e != api.OK {
		t.Fatalf("New(%d): %d", sectors, e)
	}
	return d
}

// junk returns bytes that are no frame.
func junk(sectors int, x byte) []byte {
	b := bytes.Repeat([]byte{x}, sectors*wide)
	for i := range b {
		b[i] += byte(3 * i)
	}
	return b
}

// tagOf returns a tag of that replica and place.
func tagOf(replica int, s spot) tag.Tag {
	return tag.Tag{Replica: replica, Region: s.region, Place: s.place, Index: 5, Incarnation: 1}
}

// sealed returns a frame of that replica and place.
func sealed(t *testing.T, replica int, s spot, body ...byte) []byte {
	t.Helper()
	b, e := frame.Seal(tagOf(replica, s), body, s.sectors)
	if e != api.OK {
		t.Fatalf("Seal: %d", e)
	}
	return b
}

// write writes bytes to the sectors from that one on, without a flush.
func write(t *testing.T, d *disk.Disk, first int, b []byte) {
	t.Helper()
	for k := range len(b) / wide {
		want(t, "write", d.Write(first+k, b[k*wide:(k+1)*wide]), api.OK)
	}
}

// put writes bytes to the sectors from that one on, and flushes.
func put(t *testing.T, d *disk.Disk, first int, b []byte) {
	t.Helper()
	write(t, d, first, b)
	want(t, "flush", d.Flush(), api.OK)
}

// filled returns a disk each of whose places holds a frame of that replica.
func filled(t *testing.T, sectors, replica int) *disk.Disk {
	t.Helper()
	d := made(t, sectors)
	for i, s := range spots() {
		write(t, d, s.first, sealed(t, replica, s, byte(i)))
	}
	for s := all; s < sectors; s++ {
		write(t, d, s, junk(1, byte(s)))
	}
	want(t, "flush", d.Flush(), api.OK)
	return d
}

func wantHurt(t *testing.T, d *disk.Disk, wanted ...int) {
	t.Helper()
	if l := ghost.Hurt(d); !slices.Equal(l, wanted) {
		t.Errorf("Hurt: %v; want %v", l, wanted)
	}
}

func wantPlace(t *testing.T, d *disk.Disk, replica int, s spot, wantedHurt, wantedSeen bool) {
	t.Helper()
	if hurt, seen, e := ghost.Place(d, replica, s.region, s.place); hurt != wantedHurt || seen != wantedSeen || e != api.OK {
		t.Errorf("Place %d %d, replica %d: %v, %v, %d; want %v, %v", s.region, s.place, replica, hurt, seen, e, wantedHurt, wantedSeen)
	}
}

func wantSeen(t *testing.T, d *disk.Disk, replica int, wanted bool) {
	t.Helper()
	if ok, e := ghost.Seen(d, replica); ok != wanted || e != api.OK {
		t.Errorf("Seen, replica %d: %v, %d; want %v", replica, ok, e, wanted)
	}
}

// wantHonest wants a place to be meant to hold a good frame.
func wantHonest(t *testing.T, d *disk.Disk, replica int, s spot, wanted ...byte) {
	t.Helper()
	state, x, body, e := ghost.Honest(d, replica, s.region, s.place)
	if state != frame.Good || x != tagOf(replica, s) || !bytes.Equal(body, wanted) || e != api.OK {
		t.Errorf("Honest %d %d, replica %d: %d, %v, %v, %d; want %v", s.region, s.place, replica, state, x, body, e, wanted)
	}
}

// wantNoFrame wants a place to be meant to hold blank or bad bytes.
func wantNoFrame(t *testing.T, d *disk.Disk, replica int, s spot, wanted uint8) {
	t.Helper()
	state, x, body, e := ghost.Honest(d, replica, s.region, s.place)
	if state != wanted || x != (tag.Tag{}) || len(body) != 0 || e != api.OK {
		t.Errorf("Honest %d %d, replica %d: %d, %v, %v, %d; want %d", s.region, s.place, replica, state, x, body, e, wanted)
	}
}

// wantWell wants nothing to be hurt.
func wantWell(t *testing.T, d *disk.Disk, replica int) {
	t.Helper()
	wantHurt(t, d)
	if d.Size() < all {
		return
	}
	wantSeen(t, d, replica, true)
	for _, s := range spots() {
		wantPlace(t, d, replica, s, false, false)
	}
}

// wantOnly wants one place alone to be hurt.
func wantOnly(t *testing.T, d *disk.Disk, replica int, hurt spot, seen bool) {
	t.Helper()
	for _, s := range spots() {
		wantPlace(t, d, replica, s, s == hurt, s == hurt && seen)
	}
	wantSeen(t, d, replica, seen)
}

func TestExample(t *testing.T) { // P6.1, P6.2
	d := made(t, 156)
	wantWell(t, d, 0)
	want(t, "flip", d.Flip(30, 9), api.OK)
	wantHurt(t, d, 30)
	for replica := range 7 {
		wantPlace(t, d, replica, find(t, 4, 1), true, true)
		wantPlace(t, d, replica, find(t, 4, 0), false, false)
		wantOnly(t, d, replica, find(t, 4, 1), true)
	}
}

// TestHurtSectors hurts each sector of disks of each size, in each way, alone.
func TestHurtSectors(t *testing.T) { // P6.1
	for _, size := range sizes {
		d := made(t, size)
		for s := range size {
			write(t, d, s, junk(1, byte(s)))
		}
		want(t, "flush", d.Flush(), api.OK)
		wantHurt(t, d)
		for s := range size {
			for _, bit := range []int{0, 7, 300, 511} {
				want(t, "flip", d.Flip(s, bit), api.OK)
				wantHurt(t, d, s)
				want(t, "flip back", d.Flip(s, bit), api.OK)
				wantHurt(t, d)
			}
			want(t, "lose", d.Lose(s), api.OK)
			wantHurt(t, d, s)
			put(t, d, s, junk(1, byte(s+57)))
			wantHurt(t, d)
			if size > 1 {
				want(t, "stray", d.Stray((s+1)%size, s), api.OK)
				wantHurt(t, d, s)
				put(t, d, s, junk(1, byte(s)))
			}
		}
		wantHurt(t, d)
	}
}

func TestManyHurtSectors(t *testing.T) { // P6.1
	r := rand.New(rand.NewSource(1))
	for _, size := range sizes {
		d := made(t, size)
		var wanted []int
		for i, s := range r.Perm(size) {
			if i%2 == 0 {
				want(t, "flip", d.Flip(s, r.Intn(512)), api.OK)
			} else {
				want(t, "lose", d.Lose(s), api.OK)
			}
			wanted = append(wanted, s)
			slices.Sort(wanted)
			if i < 50 || i > size-10 {
				wantHurt(t, d, wanted...)
			}
		}
		if len(ghost.Hurt(d)) != size {
			t.Errorf("%d of %d", len(ghost.Hurt(d)), size)
		}
	}
	d := made(t, most)
	for _, s := range []int{1023, 0, 155, 156, 30, 29, 157} {
		want(t, "lose", d.Lose(s), api.OK)
	}
	wantHurt(t, d, 0, 29, 30, 155, 156, 157, 1023)
}

// TestSectorsBehindThePlaces hurts sectors that belong to no place.
func TestSectorsBehindThePlaces(t *testing.T) { // P6.1, P6.2
	for _, size := range []int{157, most} {
		d := filled(t, size, 3)
		for _, s := range []int{156, size - 1} {
			want(t, "flip", d.Flip(s, 1), api.OK)
			wantHurt(t, d, s)
			for _, x := range spots() {
				wantPlace(t, d, 3, x, false, false)
			}
			wantSeen(t, d, 3, true)
			want(t, "stray", d.Stray(0, s), api.OK)
			wantHurt(t, d, s)
			wantSeen(t, d, 3, true)
			want(t, "lose", d.Lose(s), api.OK)
			wantHurt(t, d, s)
			wantSeen(t, d, 3, true)
			put(t, d, s, junk(1, 1))
		}
		wantWell(t, d, 3)
	}
}

// TestEachPlace hurts each sector of each place, in each way, on a disk full of frames.
func TestEachPlace(t *testing.T) { // P6.1, P6.2, P6.3
	d := filled(t, 156, 2)
	wantWell(t, d, 2)
	for i, s := range spots() {
		wantHonest(t, d, 2, s, byte(i))
		for sector := s.first; sector < s.first+s.sectors; sector++ {
			for _, bit := range []int{0, 511} {
				want(t, "flip", d.Flip(sector, bit), api.OK)
				wantHurt(t, d, sector)
				wantOnly(t, d, 2, s, true)
				wantHonest(t, d, 2, s, byte(i))
				want(t, "flip back", d.Flip(sector, bit), api.OK)
				wantPlace(t, d, 2, s, false, false)
			}
			want(t, "lose", d.Lose(sector), api.OK)
			wantHurt(t, d, sector)
			wantOnly(t, d, 2, s, true)
			wantHonest(t, d, 2, s, byte(i))
			put(t, d, s.first, sealed(t, 2, s, byte(i)))
			wantPlace(t, d, 2, s, false, false)
		}
	}
	wantWell(t, d, 2)
}

// TestUnseen hurts each place so that what it holds is a frame of that place, or nothing, but not what it is meant to be.
func TestUnseen(t *testing.T) { // P6.2, P6.3
	d := filled(t, most, 6)
	for i, s := range spots() {
		// An old frame stands elsewhere, where it was written on purpose.
		put(t, d, 500, sealed(t, 6, s, 200, 201))
		put(t, d, 600, make([]byte, s.sectors*wide))
		wantPlace(t, d, 6, s, false, false)
		for _, from := range []int{500, 600} {
			wantedHurt := []int(nil)
			for k := range s.sectors {
				want(t, "stray", d.Stray(from+k, s.first+k), api.OK)
				b, _, _ := d.Rest(s.first + k)
				m, _ := d.Meant(s.first + k)
				if !bytes.Equal(b, m) {
					wantedHurt = append(wantedHurt, s.first+k)
				}
			}
			wantHurt(t, d, wantedHurt...)
			wantOnly(t, d, 6, s, false)
			wantHonest(t, d, 6, s, byte(i))
			// The old frame is another replica's, and so it is detected there.
			wantPlace(t, d, 5, s, true, from == 500)
			put(t, d, s.first, sealed(t, 6, s, byte(i)))
		}
	}
	wantWell(t, d, 6)
}

// TestOtherOwners hurts places so that they hold a good frame of another replica, region or place.
func TestOtherOwners(t *testing.T) { // P6.2
	for _, s := range spots() {
		for _, other := range spots() {
			if other.sectors != s.sectors || other.place > 3 {
				continue
			}
			d := made(t, 156)
			put(t, d, other.first, sealed(t, 0, other, 1))
			put(t, d, s.first, sealed(t, 0, s, 2))
			for k := range s.sectors {
				want(t, "stray", d.Stray(other.first+k, s.first+k), api.OK)
			}
			if other == s {
				wantWell(t, d, 0)
				continue
			}
			wantOnly(t, d, 0, s, true)
			wantHonest(t, d, 0, s, 2)
		}
	}
	s := find(t, 3, 9)
	for replica := range 7 {
		d := made(t, 200)
		put(t, d, s.first, sealed(t, replica, s, 2))
		put(t, d, 199, sealed(t, (replica+1)%7, s, 3))
		want(t, "stray", d.Stray(199, s.first), api.OK)
		for asked := range 7 {
			wantOnly(t, d, asked, s, asked != (replica+1)%7)
			if asked == replica {
				wantHonest(t, d, asked, s, 2)
			} else {
				wantNoFrame(t, d, asked, s, frame.Bad)
			}
		}
	}
}

// TestParts hurts one of the two sectors of a place, so that they do not fit together.
func TestParts(t *testing.T) { // P6.2
	for _, s := range []spot{find(t, 4, 0), find(t, 4, 47), find(t, 5, 0), find(t, 5, 15)} {
		d := made(t, 200)
		whole := make([]byte, 88)
		for i := range whole {
			whole[i] = byte(i)
		}
		put(t, d, s.first, sealed(t, 1, s, whole...))
		other := slices.Clone(whole)
		other[0], other[87] = 100, 101
		put(t, d, 180, sealed(t, 1, s, other...))
		put(t, d, 190, make([]byte, 2*wide))
		for _, from := range []int{180, 190} {
			want(t, "stray", d.Stray(from, s.first), api.OK)
			wantHurt(t, d, s.first)
			wantOnly(t, d, 1, s, true)
			want(t, "stray", d.Stray(from+1, s.first+1), api.OK)
			wantHurt(t, d, s.first, s.first+1)
			wantOnly(t, d, 1, s, false)
			want(t, "lose", d.Lose(s.first+1), api.OK)
			wantHurt(t, d, s.first, s.first+1)
			wantOnly(t, d, 1, s, true)
			write(t, d, s.first, sealed(t, 1, s, whole...)[:wide])
			want(t, "flush", d.Flush(), api.OK)
			wantHurt(t, d, s.first+1)
			wantOnly(t, d, 1, s, true)
			put(t, d, s.first, sealed(t, 1, s, whole...))
			want(t, "stray", d.Stray(from+1, s.first+1), api.OK)
			wantHurt(t, d, s.first+1)
			wantOnly(t, d, 1, s, true)
			put(t, d, s.first, sealed(t, 1, s, whole...))
			wantWell(t, d, 1)
		}
		// A write to one of them came astray to the other one.
		want(t, "stray", d.Stray(s.first, s.first+1), api.OK)
		wantHurt(t, d, s.first+1)
		wantOnly(t, d, 1, s, true)
		want(t, "stray back", d.Stray(s.first+1, s.first), api.OK)
		wantHurt(t, d, s.first+1)
		put(t, d, s.first, sealed(t, 1, s, whole...))
		want(t, "stray", d.Stray(s.first+1, s.first), api.OK)
		wantHurt(t, d, s.first)
		wantOnly(t, d, 1, s, true)
		wantHonest(t, d, 1, s, whole...)
	}
}

// TestBlankPlaces hurts places that were never written.
func TestBlankPlaces(t *testing.T) { // P6.2, P6.3
	for _, s := range spots() {
		d := made(t, 157)
		for sector := s.first; sector < s.first+s.sectors; sector++ {
			// It is meant to hold what it holds, and lost.
			want(t, "lose", d.Lose(sector), api.OK)
			wantHurt(t, d, sector)
			wantOnly(t, d, 4, s, true)
			wantNoFrame(t, d, 4, s, frame.Blank)
			other := 0
			if s.first == 0 {
				other = 1
			}
			want(t, "stray from a blank one", d.Stray(other, sector), api.OK)
			wantWell(t, d, 4)
			want(t, "flip", d.Flip(sector, 0), api.OK)
			wantOnly(t, d, 4, s, true)
			wantNoFrame(t, d, 4, s, frame.Blank)
			want(t, "flip back", d.Flip(sector, 0), api.OK)
		}
		// A frame of this place, though it is meant to be blank.
		put(t, d, 156, sealed(t, 4, spot{s.region, s.place, 156, 1}, 1))
		want(t, "stray", d.Stray(156, s.first), api.OK)
		wantHurt(t, d, s.first)
		wantNoFrame(t, d, 4, s, frame.Blank)
		wantOnly(t, d, 4, s, s.sectors == 2)
		wantOnly(t, d, 3, s, true)
	}
}

// TestLostAsMeant loses sectors that hold what they are meant to, frames and others.
func TestLostAsMeant(t *testing.T) { // P6.1, P6.2, P6.3
	d := filled(t, 157, 1)
	s := find(t, 3, 23)
	want(t, "lose", d.Lose(s.first), api.OK)
	wantHurt(t, d, s.first)
	wantOnly(t, d, 1, s, true)
	wantHonest(t, d, 1, s, 27)
	// Lost by a sector that strayed there.
	other := find(t, 3, 22)
	want(t, "stray", d.Stray(s.first, other.first), api.OK)
	wantHurt(t, d, other.first, s.first)
	wantPlace(t, d, 1, other, true, true)
	wantSeen(t, d, 1, true)
	// And found by one that is well.
	want(t, "lose", d.Lose(156), api.OK)
	want(t, "stray", d.Stray(0, 156), api.OK)
	want(t, "stray", d.Stray(0, other.first), api.OK)
	want(t, "stray", d.Stray(0, s.first), api.OK)
	wantHurt(t, d, other.first, s.first, 156)
	wantPlace(t, d, 1, s, true, true)
	put(t, d, s.first, junk(1, 9))
	wantPlace(t, d, 1, s, false, false)
	wantNoFrame(t, d, 1, s, frame.Bad)
}

// TestJunk has places meant to hold bytes that are no frame, and hurts them.
func TestJunk(t *testing.T) { // P6.2, P6.3
	for _, s := range spots() {
		d := made(t, 156)
		put(t, d, s.first, junk(s.sectors, 40))
		// What is bad as it is meant to be is not hurt.
		wantWell(t, d, 0)
		wantNoFrame(t, d, 0, s, frame.Bad)
		want(t, "flip", d.Flip(s.first+s.sectors-1, 3), api.OK)
		wantOnly(t, d, 0, s, true)
		wantNoFrame(t, d, 0, s, frame.Bad)
		blank := (s.first + s.sectors) % all
		want(t, "stray", d.Stray(blank, s.first), api.OK)
		want(t, "stray", d.Stray(blank, s.first+s.sectors-1), api.OK)
		wantOnly(t, d, 0, s, false)
		wantNoFrame(t, d, 0, s, frame.Bad)
	}
}

// TestHonestOwners asks for frames that are written where they do not belong.
func TestHonestOwners(t *testing.T) { // P6.3
	for _, s := range spots() {
		d := made(t, 156)
		for _, own := range spots() {
			if own.sectors != s.sectors || own.place > 2 && own.place != s.place {
				continue
			}
			put(t, d, s.first, sealed(t, 5, own, 8))
			for replica := range 7 {
				if own == s && replica == 5 {
					wantHonest(t, d, replica, s, 8)
				} else {
					wantNoFrame(t, d, replica, s, frame.Bad)
				}
				wantPlace(t, d, replica, s, false, false)
			}
		}
	}
}

func TestHonestBodies(t *testing.T) { // P6.3, P6.4
	d := made(t, 156)
	for _, s := range []spot{find(t, 1, 0), find(t, 1, 1), find(t, 2, 0), find(t, 2, 1), find(t, 3, 0), find(t, 3, 23), find(t, 4, 0), find(t, 4, 47), find(t, 5, 0), find(t, 5, 15)} {
		wantNoFrame(t, d, 0, s, frame.Blank)
		for _, n := range []int{0, 1, 43, 44, 88} {
			body := junk(2, byte(n))[:n]
			if n > frame.Room(s.sectors) {
				continue
			}
			put(t, d, s.first, sealed(t, 0, s, body...))
			wantHonest(t, d, 0, s, body...)
			wantWell(t, d, 0)
		}
	}
}

// TestPendingWrites asks for places whose writes are pending, carried out, or lost.
func TestPendingWrites(t *testing.T) { // P6.1, P6.2, P6.3, P6.6
	for _, s := range spots() {
		d := made(t, 156)
		put(t, d, s.first, sealed(t, 1, s, 1))
		last := s.first + s.sectors - 1
		want(t, "lose", d.Lose(last), api.OK)
		want(t, "flip", d.Flip(s.first, 8), api.OK)
		hurt := slices.Compact([]int{s.first, last})
		write(t, d, s.first, sealed(t, 1, s, 2))
		wantHurt(t, d, hurt...)
		wantOnly(t, d, 1, s, true)
		wantHonest(t, d, 1, s, 1)
		want(t, "crash", d.Crash(make([]bool, s.sectors)), api.OK)
		want(t, "start", d.Start(), api.OK)
		wantHurt(t, d, hurt...)
		wantOnly(t, d, 1, s, true)
		wantHonest(t, d, 1, s, 1)
		write(t, d, s.first, sealed(t, 1, s, 2))
		want(t, "flush", d.Flush(), api.OK)
		wantWell(t, d, 1)
		wantHonest(t, d, 1, s, 2)
		for _, b := range hurt {
			want(t, "lose", d.Lose(b), api.OK)
		}
		write(t, d, s.first, sealed(t, 1, s, 3))
		want(t, "crash", d.Crash([]bool{true, true}), api.OK)
		wantWell(t, d, 1)
		wantHonest(t, d, 1, s, 3)
	}
}

// TestTorn has one of the two sectors of a place come through a crash.
func TestTorn(t *testing.T) { // P6.2, P6.3, P6.6
	for _, s := range []spot{find(t, 4, 0), find(t, 4, 47), find(t, 5, 0), find(t, 5, 15)} {
		d := made(t, 156)
		long := junk(2, 1)[:88]
		put(t, d, s.first, sealed(t, 1, s, long...))
		want(t, "flip", d.Flip(s.first+1, 0), api.OK)
		write(t, d, s.first, sealed(t, 1, s, 2))
		want(t, "crash", d.Crash([]bool{true, false}), api.OK)
		want(t, "start", d.Start(), api.OK)
		wantHurt(t, d, s.first+1)
		wantOnly(t, d, 1, s, true)
		wantNoFrame(t, d, 1, s, frame.Bad)
		write(t, d, s.first, sealed(t, 1, s, 2))
		want(t, "crash", d.Crash([]bool{false, true}), api.OK)
		wantWell(t, d, 1)
		wantHonest(t, d, 1, s, 2)
		want(t, "start", d.Start(), api.OK)
		write(t, d, s.first, sealed(t, 1, s, long...))
		want(t, "crash", d.Crash([]bool{false, true}), api.OK)
		wantWell(t, d, 1)
		wantNoFrame(t, d, 1, s, frame.Bad)
	}
}

// TestSeen hurts many places detectably, and then one more that is not.
func TestSeen(t *testing.T) { // P6.2
	l := spots()
	for i, unseen := range l {
		d := filled(t, 200, 2)
		for k, s := range l {
			if s != unseen && (i+k)%3 == 0 {
				want(t, "lose", d.Lose(s.first+s.sectors-1), api.OK)
			}
		}
		wantSeen(t, d, 2, true)
		put(t, d, 180, sealed(t, 2, unseen, 250))
		wantSeen(t, d, 2, true)
		for k := range unseen.sectors {
			want(t, "stray", d.Stray(180+k, unseen.first+k), api.OK)
		}
		wantSeen(t, d, 2, false)
		// It is seen where the frame is another replica's.
		wantSeen(t, d, 3, true)
		want(t, "flip", d.Flip(unseen.first+unseen.sectors-1, 100), api.OK)
		wantSeen(t, d, 2, true)
		want(t, "flip", d.Flip(unseen.first+unseen.sectors-1, 100), api.OK)
		wantSeen(t, d, 2, false)
		put(t, d, unseen.first, sealed(t, 2, unseen, 250))
		wantSeen(t, d, 2, true)
	}
}

// TestOff asks for disks that are dead, and down.
func TestOff(t *testing.T) { // P6.1, P6.2, P6.3
	d := filled(t, 156, 0)
	lost, old, flipped := find(t, 4, 5), find(t, 3, 5), find(t, 1, 0)
	want(t, "lose", d.Lose(lost.first+1), api.OK)
	want(t, "flip", d.Flip(flipped.first, 77), api.OK)
	write(t, d, old.first, sealed(t, 0, old, 99))
	told := func() {
		t.Helper()
		wantHurt(t, d, flipped.first, lost.first+1)
		wantPlace(t, d, 0, lost, true, true)
		wantPlace(t, d, 0, flipped, true, true)
		wantPlace(t, d, 0, old, false, false)
		wantSeen(t, d, 0, true)
		wantHonest(t, d, 0, lost, 33)
		wantHonest(t, d, 0, flipped, 0)
		wantHonest(t, d, 0, old, 9)
	}
	told()
	want(t, "power", d.Power(0), api.OK)
	want(t, "flush", d.Flush(), api.ErrDown)
	told()
	want(t, "crash", d.Crash(nil), api.OK)
	told()
	want(t, "start", d.Start(), api.OK)
	told()
}

func wantErrors(t *testing.T, d *disk.Disk, replica, region, place int, wanted api.Errno) {
	t.Helper()
	if hurt, seen, e := ghost.Place(d, replica, region, place); hurt || seen || e != wanted {
		t.Errorf("Place %d, %d %d: %v, %v, %d; want %d", replica, region, place, hurt, seen, e, wanted)
	}
	if state, x, body, e := ghost.Honest(d, replica, region, place); state != 0 || x != (tag.Tag{}) || body != nil || e != wanted {
		t.Errorf("Honest %d, %d %d: %d, %v, %v, %d; want %d", replica, region, place, state, x, body, e, wanted)
	}
}

func wantSeenError(t *testing.T, d *disk.Disk, replica int, wanted api.Errno) {
	t.Helper()
	if ok, e := ghost.Seen(d, replica); ok || e != wanted {
		t.Errorf("Seen %d: %v, %d; want %d", replica, ok, e, wanted)
	}
}

// TestWrongNumbers asks for places and replicas that do not exist, on disks that are well, and on disks all of whose sectors are hurt.
func TestWrongNumbers(t *testing.T) { // P6.2, P6.3
	for _, size := range allSizes {
		for _, hurt := range []bool{false, true} {
			d := filled(t, size, 6)
			for s := range size {
				if hurt {
					want(t, "lose", d.Lose(s), api.OK)
				}
			}
			for _, p := range wrongPlaces() {
				for _, replica := range []int{0, 6, -1, 7} {
					wantErrors(t, d, replica, p[0], p[1], api.ErrArg)
				}
			}
			for _, replica := range wrongReplicas {
				wantSeenError(t, d, replica, api.ErrArg)
				for _, s := range spots() {
					wantErrors(t, d, replica, s.region, s.place, api.ErrArg)
				}
			}
			for _, replica := range []int{0, 6} {
				wantSeen(t, d, replica, true)
				for _, s := range spots() {
					wantPlace(t, d, replica, s, hurt, hurt)
				}
			}
		}
	}
}

// TestSmallDisks asks for disks that do not have all regions, also for places that they do have.
func TestSmallDisks(t *testing.T) { // P6.1, P6.2, P6.3
	for _, size := range []int{1, 2, 64, 154, 155} {
		d := made(t, size)
		put(t, d, 0, sealed(t, 0, find(t, 1, 0), 1))
		want(t, "lose", d.Lose(size-1), api.OK)
		wantHurt(t, d, size-1)
		for replica := -1; replica <= 7; replica++ {
			wantSeenError(t, d, replica, api.ErrArg)
			for _, s := range spots() {
				wantErrors(t, d, replica, s.region, s.place, api.ErrArg)
			}
			wantErrors(t, d, replica, 0, 0, api.ErrArg)
			wantErrors(t, d, replica, 1, 2, api.ErrArg)
		}
	}
}

// TestDisksThatNewDidNotReturn asks for no disk, for one that was not made, and for copies of such as were made.
func TestDisksThatNewDidNotReturn(t *testing.T) { // P6.1, P6.2, P6.3
	refused, _ := disk.New(0)
	d := filled(t, 156, 0)
	want(t, "lose", d.Lose(0), api.OK)
	big, small := *d, *made(t, 1)
	for _, nobody := range []*disk.Disk{nil, new(disk.Disk), refused, &big, &small} {
		wantHurt(t, nobody)
		for _, replica := range append([]int{0, 6}, wrongReplicas...) {
			wantSeenError(t, nobody, replica, api.ErrNil)
			wantErrors(t, nobody, replica, 1, 0, api.ErrNil)
			wantErrors(t, nobody, replica, 5, 15, api.ErrNil)
		}
		for _, p := range wrongPlaces() {
			wantErrors(t, nobody, 0, p[0], p[1], api.ErrNil)
			wantErrors(t, nobody, -1, p[0], p[1], api.ErrNil)
		}
	}
	wantHurt(t, d, 0)
}

// view is all that a disk shows.
type view struct {
	size, waits int
	up          bool
	sectors     []string
	lost        []bool
}

func look(d *disk.Disk) view {
	v := view{size: d.Size(), waits: d.Waits(), up: d.Up()}
	for s := range d.Size() {
		read, _ := d.Read(s)
		rest, lost, _ := d.Rest(s)
		meant, _ := d.Meant(s)
		v.sectors = append(v.sectors, string(read), string(rest), string(meant))
		v.lost = append(v.lost, lost)
	}
	return v
}

func same(a, b view) bool {
	return a.size == b.size && a.waits == b.waits && a.up == b.up && slices.Equal(a.sectors, b.sectors) && slices.Equal(a.lost, b.lost)
}

// TestAskingChangesNothing asks everything, and changes what was told.
func TestAskingChangesNothing(t *testing.T) { // P6.1, P6.2, P6.3
	d := filled(t, 157, 2)
	want(t, "lose", d.Lose(30), api.OK)
	want(t, "flip", d.Flip(5, 6), api.OK)
	want(t, "stray", d.Stray(7, 8), api.OK)
	write(t, d, 30, junk(2, 3))
	want(t, "power", d.Power(1), api.OK)
	before := look(d)
	for range 3 {
		l := ghost.Hurt(d)
		if !slices.Equal(l, []int{5, 8, 30}) {
			t.Errorf("%v", l)
		}
		clear(l)
		clear(append(l, 7, 8)[:cap(l)])
		for i, s := range spots() {
			wantPlace(t, d, 2, s, s.first == 5 || s.first == 8 || s.first == 30, s.first == 5 || s.first == 8 || s.first == 30)
			_, _, body, e := ghost.Honest(d, 2, s.region, s.place)
			if e != api.OK || len(body) != 1 || body[0] != byte(i) {
				t.Errorf("%v: %v, %d", s, body, e)
			}
			_, _, other, _ := ghost.Honest(d, 2, s.region, s.place)
			_ = append(body, 1, 2, 3)
			clear(body[:cap(body)])
			if len(other) != 1 || other[0] != byte(i) {
				t.Errorf("%v: told together: %v", s, other)
			}
		}
		wantSeen(t, d, 2, true)
		if !same(look(d), before) {
			t.Fatal("the disk changed")
		}
	}
	// The power is as before, too.
	want(t, "flush", d.Flush(), api.OK)
	want(t, "flush", d.Flush(), api.ErrDown)
}

// shadow is what a disk holds, by the chapters' definitions, and the bytes that each sector was last given.
type shadow struct {
	rest, meant []string
	lost        []bool
	pending     []pending
}

type pending struct {
	sector int
	bytes  string
}

func (m *shadow) carryOut(w pending) {
	m.rest[w.sector], m.meant[w.sector], m.lost[w.sector] = w.bytes, w.bytes, false
}

func (m *shadow) hurt(sector int) bool {
	return m.lost[sector] || m.rest[sector] != m.meant[sector]
}

// place returns what Place must.
func (m *shadow) place(replica int, s spot) (hurt, seen bool) {
	var b []byte
	for sector := s.first; sector < s.first+s.sectors; sector++ {
		hurt = hurt || m.hurt(sector)
		seen = seen || m.lost[sector]
		b = append(b, m.rest[sector]...)
	}
	state, _, _ := frame.Mine(b, replica, s.region, s.place)
	return hurt, hurt && (seen || state == frame.Bad)
}

// wantAsShadow wants all that is told to be as the shadow has it.
func wantAsShadow(t *testing.T, d *disk.Disk, m *shadow, replica int) {
	t.Helper()
	var hurt []int
	for s := range m.rest {
		if m.hurt(s) {
			hurt = append(hurt, s)
		}
	}
	wantHurt(t, d, hurt...)
	allSeen := true
	for _, s := range spots() {
		hurt, seen := m.place(replica, s)
		wantPlace(t, d, replica, s, hurt, seen)
		allSeen = allSeen && (!hurt || seen)
		b := []byte(m.meant[s.first])
		if s.sectors == 2 {
			b = append(b, m.meant[s.first+1]...)
		}
		state, x, body := frame.Mine(b, replica, s.region, s.place)
		if st, y, other, e := ghost.Honest(d, replica, s.region, s.place); st != state || y != x || !bytes.Equal(other, body) || e != api.OK {
			t.Fatalf("Honest %v: %d, %v, %v, %d; want %d, %v, %v", s, st, y, other, e, state, x, body)
		}
	}
	wantSeen(t, d, replica, allSeen)
}

// change changes a disk and its shadow by one random call; few places, so that what happens there meets.
func change(t *testing.T, r *rand.Rand, d *disk.Disk, m *shadow, places []spot, faults bool) {
	t.Helper()
	s := places[r.Intn(len(places))]
	sector := s.first + r.Intn(s.sectors)
	call := r.Intn(10)
	if !faults {
		call = r.Intn(6)
	}
	switch call {
	case 0, 1, 2, 3:
		b := [][]byte{sealed(t, 1, s, byte(r.Intn(3))), sealed(t, 1, s, byte(r.Intn(3))), sealed(t, 2, s, 1), make([]byte, s.sectors*wide), junk(s.sectors, byte(r.Intn(2)))}[r.Intn(5)]
		for k := range s.sectors {
			m.pending = append(m.pending, pending{s.first + k, string(b[k*wide : (k+1)*wide])})
		}
		write(t, d, s.first, b)
	case 4:
		want(t, "flush", d.Flush(), api.OK)
		for _, w := range m.pending {
			m.carryOut(w)
		}
		m.pending = nil
	case 5:
		keep := make([]bool, r.Intn(6))
		for i := range keep {
			keep[i] = r.Intn(2) == 0
			if keep[i] && i < len(m.pending) {
				m.carryOut(m.pending[i])
			}
		}
		m.pending = nil
		want(t, "crash", d.Crash(keep), api.OK)
		want(t, "start", d.Start(), api.OK)
	case 6, 7:
		bit := r.Intn(2) // few, so that some faults undo others
		want(t, "flip", d.Flip(sector, bit), api.OK)
		b := []byte(m.rest[sector])
		b[0] ^= 1 << bit
		m.rest[sector] = string(b)
	case 8:
		want(t, "lose", d.Lose(sector), api.OK)
		m.lost[sector] = true
	case 9:
		other := places[r.Intn(len(places))]
		from := other.first + r.Intn(other.sectors)
		want(t, "stray", d.Stray(from, sector), api.OK)
		m.rest[sector], m.lost[sector] = m.rest[from], m.lost[from]
	}
}

func newShadow(sectors int) *shadow {
	zero := string(make([]byte, wide))
	return &shadow{
		rest:  slices.Repeat([]string{zero}, sectors),
		meant: slices.Repeat([]string{zero}, sectors),
		lost:  make([]bool, sectors),
	}
}

func TestAsDefined(t *testing.T) { // P6.1, P6.2, P6.3, P6.5
	r := rand.New(rand.NewSource(2))
	l := spots()
	for range 60 {
		size := allSizes[r.Intn(2)]
		d, m := made(t, size), newShadow(size)
		places := []spot{l[r.Intn(len(l))], l[28+r.Intn(len(l)-28)], l[r.Intn(28)], {1, 0, size - 1, 1}}
		for range 60 {
			change(t, r, d, m, places, true)
			wantAsShadow(t, d, m, r.Intn(3))
		}
		if t.Failed() {
			return
		}
	}
}

// TestWithoutFaults changes disks without faults: nothing is hurt, and after a flush what is meant is what is read.
func TestWithoutFaults(t *testing.T) { // P6.4
	r := rand.New(rand.NewSource(3))
	l := spots()
	for range 60 {
		d, m := made(t, 156), newShadow(156)
		places := []spot{l[r.Intn(len(l))], l[28+r.Intn(len(l)-28)], l[r.Intn(28)]}
		for range 40 {
			change(t, r, d, m, places, false)
			wantHurt(t, d)
			wantSeen(t, d, 1, true)
			for _, s := range places {
				wantPlace(t, d, 1, s, false, false)
			}
		}
		want(t, "flush", d.Flush(), api.OK)
		wantWell(t, d, 1)
		for _, s := range l {
			var b []byte
			for k := range s.sectors {
				sector, _ := d.Read(s.first + k)
				b = append(b, sector...)
			}
			state, x, body := frame.Mine(b, 1, s.region, s.place)
			if st, y, other, e := ghost.Honest(d, 1, s.region, s.place); st != state || y != x || !bytes.Equal(other, body) || e != api.OK {
				t.Errorf("Honest %v: %d, %v, %v, %d; read %d, %v, %v", s, st, y, other, e, state, x, body)
			}
		}
	}
}

// TestDetection wants a detectable place to be hurt, and good bytes that are not hurt to be those of the last writes that were carried out.
func TestDetection(t *testing.T) { // P6.5
	r := rand.New(rand.NewSource(4))
	l := spots()
	good, detected := 0, 0
	for range 60 {
		d, m := made(t, 156), newShadow(156)
		places := []spot{l[r.Intn(len(l))], l[28+r.Intn(len(l)-28)], l[r.Intn(28)]}
		for range 60 {
			change(t, r, d, m, places, true)
			for _, s := range places {
				hurt, seen, _ := ghost.Place(d, 1, s.region, s.place)
				if seen && !hurt {
					t.Errorf("%v: detectable, and not hurt", s)
				}
				if seen {
					detected++
				}
				var b, last []byte
				for k := range s.sectors {
					sector, _, _ := d.Rest(s.first + k)
					b = append(b, sector...)
					last = append(last, m.meant[s.first+k]...)
				}
				if state, _, _ := frame.Mine(b, 1, s.region, s.place); state == frame.Good && !hurt {
					good++
					if !bytes.Equal(b, last) {
						t.Errorf("%v: %v; written: %v", s, b, last)
					}
				}
			}
		}
	}
	if good < 500 || detected < 500 {
		t.Errorf("%d good, %d detected", good, detected)
	}
}

// TestRewriting hurts places at random, and writes all their sectors again.
func TestRewriting(t *testing.T) { // P6.6
	r := rand.New(rand.NewSource(5))
	for _, s := range spots() {
		d, m := made(t, 156), newShadow(156)
		for range 20 {
			change(t, r, d, m, []spot{s, find(t, 1, 0), find(t, 3, 1)}, true)
		}
		for k := range s.sectors {
			want(t, "lose", d.Lose(s.first+k), api.OK)
		}
		wantPlace(t, d, 1, s, true, true)
		order := r.Perm(s.sectors)
		b := sealed(t, 1, s, 7)
		for _, k := range order {
			wantPlace(t, d, 1, s, true, true)
			want(t, "write", d.Write(s.first+k, b[k*wide:(k+1)*wide]), api.OK)
			wantPlace(t, d, 1, s, true, true)
		}
		want(t, "flush", d.Flush(), api.OK)
		wantPlace(t, d, 1, s, false, false)
		wantHonest(t, d, 1, s, 7)
		want(t, "flip", d.Flip(s.first, 1), api.OK)
		wantPlace(t, d, 1, s, true, true)
	}
}
