package frame_test

import (
	"bytes"
	"encoding/binary"
	"hash/crc32"
	"math"
	"math/rand"
	"slices"
	"testing"

	"sexton/api"
	"sexton/frame"
	"sexton/tag"
)

const (
	sector = 64
	most   = 1 << 40
)

// plain is a valid tag whose numbers all differ.
var plain = tag.Tag{Replica: 1, Region: 4, Place: 47, Index: 258, Incarnation: 3}

// sizes holds the numbers of sectors that a frame may have.
var sizes = []int{1, 2}

// rooms holds the chapter's maximum length of a body at each number of sectors.
var rooms = [...]int{1: 43, 2: 88}

// places holds the number of places at each region's number.
var places = [...]int{1: 2, 2: 2, 3: 24, 4: 48, 5: 16}

// wrongSectors returns numbers of sectors that no frame has, among them some whose bytes overflow to those of one that has.
func wrongSectors() []int {
	return []int{math.MinInt, math.MinInt + 1, math.MinInt + 2, -1 << 58, -64, -3, -2, -1, 0, 3, 4, 7, 64, 128, 1 << 32, 1<<32 + 1, 1 << 58, 1<<58 + 1, 1<<58 + 2, math.MaxInt - 1, math.MaxInt}
}

// tags returns valid tags, each number at its least and its greatest value, and between.
func tags() []tag.Tag {
	l := []tag.Tag{plain}
	for _, replica := range []int{0, 3, 6} {
		for region := 1; region < len(places); region++ {
			for _, place := range []int{0, 1, places[region] - 1} {
				for _, index := range []int{0, 1, 0x0504030201, most} {
					for _, incarnation := range []int{1, 256, most} {
						l = append(l, tag.Tag{Replica: replica, Region: region, Place: place, Index: index, Incarnation: incarnation})
					}
				}
			}
		}
	}
	return l
}

// wrongTags returns tags with one number out of its range, and the zero one.
func wrongTags() []tag.Tag {
	l := []tag.Tag{{}}
	for _, n := range []int{math.MinInt, -1, most + 1, 1 << 48, math.MaxInt} {
		for _, field := range []func(*tag.Tag){
			func(x *tag.Tag) { x.Replica = n },
			func(x *tag.Tag) { x.Region = n },
			func(x *tag.Tag) { x.Place = n },
			func(x *tag.Tag) { x.Index = n },
			func(x *tag.Tag) { x.Incarnation = n },
		} {
			x := plain
			field(&x)
			l = append(l, x)
		}
	}
	l = append(l,
		tag.Tag{Replica: 7, Region: 1, Incarnation: 1},
		tag.Tag{Region: 0, Incarnation: 1},
		tag.Tag{Region: 6, Incarnation: 1},
		tag.Tag{Region: 1, Incarnation: 0})
	for region := 1; region < len(places); region++ {
		l = append(l, tag.Tag{Region: region, Place: places[region], Incarnation: 1})
	}
	return l
}

// bodies returns bodies of each length that fits so many sectors: zero bytes, and bytes that differ from place to place.
func bodies(sectors int) [][]byte {
	var l [][]byte
	for n := range rooms[sectors] + 1 {
		varied := make([]byte, n)
		for i := range varied {
			varied[i] = byte(3*i + 201)
		}
		l = append(l, make([]byte, n), varied)
	}
	return l
}

// summed puts the checksum of the bytes before the last four there.
func summed(b []byte) []byte {
	last := len(b) - 4
	binary.LittleEndian.PutUint32(b[last:], crc32.Checksum(b[:last], crc32.MakeTable(crc32.Castagnoli)))
	return b
}

// built returns the bytes of a frame by the chapter's definition, the tag's numbers cut down to their bytes, whether it is valid or not.
func built(x tag.Tag, body []byte, sectors int) []byte {
	b := make([]byte, sector*sectors)
	binary.LittleEndian.PutUint16(b, uint16(len(body)))
	b[2], b[3], b[4] = byte(x.Replica), byte(x.Region), byte(x.Place)
	for i := range 6 {
		b[5+i] = byte(x.Index >> (8 * i))
		b[11+i] = byte(x.Incarnation >> (8 * i))
	}
	copy(b[17:], body)
	return summed(b)
}

// told is what Open tells by the chapter's definition.
func told(b []byte) (uint8, tag.Tag, []byte) {
	room := map[int]int{sector: 43, 2 * sector: 88}[len(b)]
	if room == 0 {
		return frame.Bad, tag.Tag{}, nil
	}
	if bytes.Equal(b, make([]byte, len(b))) {
		return frame.Blank, tag.Tag{}, nil
	}
	n := int(binary.LittleEndian.Uint16(b))
	x, e := tag.Parse(b[2:17])
	if e != api.OK || n > room || !bytes.Equal(built(x, b[17:17+n], len(b)/sector), b) {
		return frame.Bad, tag.Tag{}, nil
	}
	return frame.Good, x, b[17 : 17+n]
}

func seal(t *testing.T, x tag.Tag, body []byte, sectors int) []byte {
	t.Helper()
	b, e := frame.Seal(x, body, sectors)
	if e != api.OK {
		t.Fatalf("Seal(%v, %d bytes, %d): error %d", x, len(body), sectors, e)
	}
	return b
}

func wantSealError(t *testing.T, x tag.Tag, body []byte, sectors int, want api.Errno) {
	t.Helper()
	if b, e := frame.Seal(x, body, sectors); b != nil || e != want {
		t.Errorf("Seal(%v, %d bytes, %d): %v, %d; want error %d", x, len(body), sectors, b, e, want)
	}
}

func wantGood(t *testing.T, b []byte, x tag.Tag, body []byte) {
	t.Helper()
	if state, y, rest := frame.Open(b); state != frame.Good || y != x || !bytes.Equal(rest, body) {
		t.Errorf("Open(%v): %d, %v, %v; want %v, %v", b, state, y, rest, x, body)
	}
	if state, y, rest := frame.Mine(b, x.Replica, x.Region, x.Place); state != frame.Good || y != x || !bytes.Equal(rest, body) {
		t.Errorf("Mine(%v): %d, %v, %v; want %v, %v", b, state, y, rest, x, body)
	}
}

// wantState wants bytes to be blank or bad, and nothing else to be told of them; as those of any place, too.
func wantState(t *testing.T, b []byte, want uint8) {
	t.Helper()
	if state, x, body := frame.Open(b); state != want || x != (tag.Tag{}) || body != nil {
		t.Errorf("Open(%v): %d, %v, %v; want %d", b, state, x, body, want)
	}
	for _, x := range []tag.Tag{plain, {Region: 1}, {}, {Replica: -1, Region: math.MinInt, Place: math.MaxInt}} {
		wantMine(t, b, x.Replica, x.Region, x.Place, want)
	}
}

func wantMine(t *testing.T, b []byte, replica, region, place int, want uint8) {
	t.Helper()
	if state, x, body := frame.Mine(b, replica, region, place); state != want || x != (tag.Tag{}) || body != nil {
		t.Errorf("Mine(%v, %d, %d, %d): %d, %v, %v; want %d", b, replica, region, place, state, x, body, want)
	}
}

func TestStates(t *testing.T) { // P4.2
	if frame.Blank != 0 || frame.Good != 1 || frame.Bad != 2 {
		t.Errorf("%d, %d, %d", frame.Blank, frame.Good, frame.Bad)
	}
}

func TestExample(t *testing.T) { // P4.1, P4.2, P4.3
	want := slices.Concat([]byte{1, 0, 1, 4, 47, 2, 1, 0, 0, 0, 0, 3, 0, 0, 0, 0, 0, 7}, make([]byte, 106), []byte{174, 62, 18, 148})
	b := seal(t, plain, []byte{7}, 2)
	if !bytes.Equal(b, want) {
		t.Errorf("%v; want %v", b, want)
	}
	wantGood(t, want, plain, []byte{7})
}

func TestRoom(t *testing.T) { // P4.1
	for _, sectors := range sizes {
		if n := frame.Room(sectors); n != rooms[sectors] {
			t.Errorf("Room(%d): %d", sectors, n)
		}
	}
	for _, sectors := range wrongSectors() {
		if n := frame.Room(sectors); n != 0 {
			t.Errorf("Room(%d): %d", sectors, n)
		}
	}
}

func TestSealAsDefined(t *testing.T) { // P4.1, P4.2, P4.3, P4.4
	for _, sectors := range sizes {
		for _, body := range bodies(sectors) {
			for _, x := range tags() {
				b := seal(t, x, body, sectors)
				if want := built(x, body, sectors); !bytes.Equal(b, want) {
					t.Fatalf("Seal(%v, %v, %d): %v; want %v", x, body, sectors, b, want)
				}
				wantGood(t, b, x, body)
			}
		}
	}
}

func TestSealOfNoBody(t *testing.T) { // P4.1
	for _, sectors := range sizes {
		if b := seal(t, plain, nil, sectors); !bytes.Equal(b, seal(t, plain, []byte{}, sectors)) {
			t.Errorf("%d sectors: %v", sectors, b)
		}
	}
}

func TestSealOfWrongSectors(t *testing.T) { // P4.1
	for _, sectors := range wrongSectors() {
		for _, n := range []int{0, 1, 43, 44, 88, 89, 1 << 16} {
			wantSealError(t, plain, make([]byte, n), sectors, api.ErrArg)
		}
	}
}

func TestSealOfWrongTags(t *testing.T) { // P4.1
	for _, x := range wrongTags() {
		for _, n := range []int{0, 1, 43, 44, 88, 89, 1 << 16} {
			wantSealError(t, x, make([]byte, n), 1, api.ErrArg)
			wantSealError(t, x, make([]byte, n), 2, api.ErrArg)
			wantSealError(t, x, make([]byte, n), 3, api.ErrArg)
		}
	}
}

func TestSealOfBodiesThatAreTooLong(t *testing.T) { // P4.1
	for _, x := range tags() {
		for _, n := range []int{44, 45, 47, 48, 64, 88, 89, 255, 256, 1<<16 - 1, 1 << 16, 1<<16 + 1} {
			wantSealError(t, x, make([]byte, n), 1, api.ErrLong)
		}
		for _, n := range []int{89, 90, 107, 108, 111, 112, 128, 255, 256, 1<<16 - 1, 1 << 16, 1<<16 + 1} {
			wantSealError(t, x, make([]byte, n), 2, api.ErrLong)
		}
	}
}

func TestZeroBytes(t *testing.T) { // P4.2, P4.3
	for n := range 300 {
		want := frame.Bad
		if n == sector || n == 2*sector {
			want = frame.Blank
		}
		wantState(t, make([]byte, n), want)
	}
	wantState(t, nil, frame.Bad)
	wantState(t, make([]byte, 1<<12), frame.Bad)
}

func TestAlmostZeroBytes(t *testing.T) { // P4.2, P4.3
	for _, n := range []int{sector, 2 * sector} {
		for i := range 8 * n {
			b := make([]byte, n)
			turn(b, i)
			wantState(t, b, frame.Bad)
		}
	}
}

func TestOtherBytes(t *testing.T) { // P4.2
	for _, n := range []int{1, 2, 16, 17, 63, 64, 65, 127, 128, 129, 192, 1 << 16} {
		for _, fill := range []byte{1, 43, 255} {
			wantState(t, bytes.Repeat([]byte{fill}, n), frame.Bad)
		}
	}
}

func TestPaddingThatIsNotZero(t *testing.T) { // P4.2
	for _, sectors := range sizes {
		room := rooms[sectors]
		for _, n := range []int{0, 1, room - 1, room} {
			for at := 17 + n; at < sector*sectors-4; at++ {
				for _, other := range []byte{1, 128, 255} {
					b := built(plain, make([]byte, n), sectors)
					b[at] = other
					wantState(t, summed(b), frame.Bad)
				}
			}
		}
	}
}

func TestLengthThatIsTooGreat(t *testing.T) { // P4.2
	for _, sectors := range sizes {
		room := rooms[sectors]
		for n := room + 1; n < 1<<16; n++ {
			b := built(plain, nil, sectors)
			binary.LittleEndian.PutUint16(b, uint16(n))
			if state, x, body := frame.Open(summed(b)); state != frame.Bad || x != (tag.Tag{}) || body != nil {
				t.Fatalf("length %d: %d, %v, %v", n, state, x, body)
			}
		}
	}
	// A body for two sectors all of which would have room there, had it not too many bytes.
	for n := 89; n <= 107; n++ {
		wantState(t, built(plain, bytes.Repeat([]byte{9}, n), 2), frame.Bad)
	}
}

func TestLengthThatIsAnother(t *testing.T) { // P4.2
	for _, sectors := range sizes {
		b := built(plain, []byte{1, 2, 3, 0, 0}, sectors)
		for n := range rooms[sectors] + 1 {
			binary.LittleEndian.PutUint16(b, uint16(n))
			if n < 3 {
				wantState(t, summed(b), frame.Bad)
			} else {
				wantGood(t, summed(b), plain, b[17:17+n])
			}
		}
	}
}

func TestBytesOfWrongTags(t *testing.T) { // P4.2
	for _, sectors := range sizes {
		for _, x := range []tag.Tag{
			{},
			{Replica: 7, Region: 1, Incarnation: 1},
			{Replica: 255, Region: 1, Incarnation: 1},
			{Region: 0, Incarnation: 1},
			{Region: 6, Incarnation: 1},
			{Region: 255, Incarnation: 1},
			{Region: 1, Place: 2, Incarnation: 1},
			{Region: 3, Place: 24, Incarnation: 1},
			{Region: 4, Place: 48, Incarnation: 1},
			{Region: 5, Place: 16, Incarnation: 1},
			{Region: 5, Place: 255, Incarnation: 1},
			{Region: 1, Index: most + 1, Incarnation: 1},
			{Region: 1, Index: 1<<48 - 1, Incarnation: 1},
			{Region: 1, Incarnation: 0},
			{Region: 1, Incarnation: most + 1},
			{Region: 1, Incarnation: 1<<48 - 1},
		} {
			for _, n := range []int{0, 1, rooms[sectors]} {
				b := built(x, make([]byte, n), sectors)
				wantState(t, b, frame.Bad)
				wantMine(t, b, x.Replica, x.Region, x.Place, frame.Bad)
			}
		}
	}
}

func TestWrongChecksums(t *testing.T) { // P4.2
	for _, sectors := range sizes {
		for at := range 4 {
			for other := range 256 {
				b := built(plain, []byte{7}, sectors)
				if last := len(b) - 4 + at; b[last] != byte(other) {
					b[last] = byte(other)
					wantState(t, b, frame.Bad)
				}
			}
		}
		b := built(plain, []byte{7}, sectors)
		slices.Reverse(b[len(b)-4:])
		wantState(t, b, frame.Bad)
		clear(b[len(b)-4:])
		wantState(t, b, frame.Bad)
	}
}

// TestAsDefined holds Open to the definition for bytes that are close to frames, most of them with a right checksum.
func TestAsDefined(t *testing.T) { // P4.2, P4.4
	r := rand.New(rand.NewSource(1))
	all := tags()
	var seen [3]int
	for range 100000 {
		sectors := 1 + r.Intn(2)
		body := make([]byte, r.Intn(rooms[sectors]+1))
		r.Read(body)
		b := built(all[r.Intn(len(all))], body, sectors)
		for range r.Intn(3) {
			b[r.Intn(len(b))] = byte(r.Intn(256) >> r.Intn(9))
		}
		if r.Intn(100) == 0 {
			clear(b)
		} else if r.Intn(5) > 0 {
			summed(b)
		}
		state, x, body := frame.Open(b)
		wantedState, wantedTag, wantedBody := told(b)
		if state != wantedState || x != wantedTag || !bytes.Equal(body, wantedBody) {
			t.Fatalf("Open(%v): %d, %v, %v; want %d, %v, %v", b, state, x, body, wantedState, wantedTag, wantedBody)
		}
		if state == frame.Good && !bytes.Equal(seal(t, x, body, sectors), b) {
			t.Fatalf("sealed once more: %v", b)
		}
		seen[state]++
	}
	if min(seen[frame.Blank], seen[frame.Good], seen[frame.Bad]) < 500 {
		t.Errorf("tried of each state: %v", seen)
	}
}

func TestMine(t *testing.T) { // P4.3, P4.6
	numbers := []int{math.MinInt, -256, -1, 0, 1, 2, 3, 4, 5, 6, 7, 15, 16, 23, 24, 47, 48, 255, 256, 257, 1 << 32, 1<<32 + 1, math.MaxInt}
	for _, x := range []tag.Tag{plain, {Region: 1, Incarnation: 1}, {Replica: 6, Region: 5, Place: 15, Index: most, Incarnation: most}, {Replica: 3, Region: 3, Place: 3, Index: 3, Incarnation: 3}} {
		for _, sectors := range sizes {
			body := []byte{1, 2, 3}
			b := seal(t, x, body, sectors)
			for _, replica := range numbers {
				for _, region := range numbers {
					for _, place := range numbers {
						if replica != x.Replica || region != x.Region || place != x.Place {
							wantMine(t, b, replica, region, place, frame.Bad)
						}
					}
				}
			}
			wantGood(t, b, x, body)
		}
	}
}

func TestEachFrameAtEachPlace(t *testing.T) { // P4.3, P4.6
	type owner struct{ replica, region, place int }
	var owners []owner
	frames := map[owner][]byte{}
	for replica := range 7 {
		for region := 1; region < len(places); region++ {
			for place := range places[region] {
				o := owner{replica, region, place}
				owners = append(owners, o)
				frames[o] = seal(t, tag.Tag{Replica: replica, Region: region, Place: place, Index: 5, Incarnation: 6}, []byte{9}, 1)
			}
		}
	}
	for _, o := range owners {
		for _, p := range owners {
			// Left out for the sake of time; some that differ in all of it stand in TestMine.
			if o.replica != p.replica && o.region != p.region && o.place != p.place {
				continue
			}
			state, x, body := frame.Mine(frames[o], p.replica, p.region, p.place)
			if o == p && (state != frame.Good || x.Place != o.place || !bytes.Equal(body, []byte{9})) {
				t.Fatalf("%v at its own: %d, %v, %v", o, state, x, body)
			}
			if o != p && (state != frame.Bad || x != (tag.Tag{}) || body != nil) {
				t.Fatalf("%v at %v: %d, %v, %v", o, p, state, x, body)
			}
		}
	}
}

// turn turns bits of b about, in order from the lowest one of the first byte on; the same call once more undoes it.
func turn(b []byte, bits ...int) {
	for _, i := range bits {
		b[i/8] ^= 1 << (i % 8)
	}
}

// wantDetected wants a good frame to be bad while bits of it are turned about.
func wantDetected(t *testing.T, b []byte, bits ...int) {
	t.Helper()
	turn(b, bits...)
	if state, x, body := frame.Open(b); state != frame.Bad || x != (tag.Tag{}) || body != nil {
		t.Fatalf("bits %v: Open(%v): %d, %v, %v", bits, b, state, x, body)
	}
	turn(b, bits...)
}

// someFrames returns frames of each number of sectors: the shortest, one that is partly and one that is entirely full.
func someFrames(t *testing.T) [][]byte {
	t.Helper()
	var l [][]byte
	for _, sectors := range sizes {
		room := rooms[sectors]
		l = append(l,
			seal(t, tag.Tag{Region: 1, Incarnation: 1}, nil, sectors),
			seal(t, plain, []byte{1, 0, 255, 7, 0}, sectors),
			seal(t, tag.Tag{Replica: 6, Region: 5, Place: 15, Index: most, Incarnation: most}, bytes.Repeat([]byte{255}, room), sectors))
	}
	return l
}

func TestOneAndTwoBits(t *testing.T) { // P4.5
	for _, b := range someFrames(t) {
		for i := range 8 * len(b) {
			wantDetected(t, b, i)
			wantMineBad(t, b, i)
			for j := i % 7; j < i; j += 7 {
				wantDetected(t, b, i, j)
			}
		}
	}
	b := seal(t, plain, []byte{7}, 1)
	for i := range 8 * len(b) {
		for j := range i {
			wantDetected(t, b, i, j)
		}
	}
}

// wantMineBad wants a frame whose bit is turned about to be bad for the replica, region and place that it names then.
func wantMineBad(t *testing.T, b []byte, bit int) {
	t.Helper()
	turn(b, bit)
	wantMine(t, b, int(b[2]), int(b[3]), int(b[4]), frame.Bad)
	turn(b, bit)
}

func TestThreeBits(t *testing.T) { // P4.5
	r := rand.New(rand.NewSource(2))
	for _, b := range someFrames(t) {
		last := 8 * len(b)
		// One of each part: the length, the tag, the body or the padding, the checksum; at its first and last bits and between.
		some := []int{0, 5, 15, 16, 17, 24, 39, 40, 87, 88, 135, 136, 137, 175, 176, last - 33, last - 32, last - 31, last - 8, last - 1}
		for x, i := range some {
			for y, j := range some[:x] {
				for _, k := range some[:y] {
					wantDetected(t, b, i, j, k)
				}
			}
		}
		for range 20000 {
			l := r.Perm(last)[:3]
			wantDetected(t, b, l...)
		}
	}
}

func TestBitsWithin32(t *testing.T) { // P4.5
	r := rand.New(rand.NewSource(3))
	for _, b := range someFrames(t) {
		for first := range 8 * len(b) {
			patterns := []uint32{0xffffffff, 0x80000001, 0xff, 0xffff, 0xff0000ff, 0x55555555}
			for range 40 {
				patterns = append(patterns, r.Uint32()|1)
			}
			for _, pattern := range patterns {
				var bits []int
				for i := range 32 {
					if pattern>>i&1 == 1 && first+i < 8*len(b) {
						bits = append(bits, first+i)
					}
				}
				wantDetected(t, b, bits...)
			}
		}
	}
}

func TestOtherDamage(t *testing.T) { // P4.5, P4.6
	one, other := seal(t, plain, bytes.Repeat([]byte{3}, 88), 2), seal(t, plain, bytes.Repeat([]byte{4}, 88), 2)
	wantState(t, slices.Concat(one[:sector], other[sector:]), frame.Bad)
	wantState(t, slices.Concat(other[:sector], one[sector:]), frame.Bad)
	wantState(t, slices.Concat(one[sector:], one[:sector]), frame.Bad)
	wantState(t, slices.Concat(one[:sector], one[:sector]), frame.Bad)
	wantState(t, slices.Concat(one[sector:], one[sector:]), frame.Bad)
	wantState(t, slices.Concat(one[:sector], make([]byte, sector)), frame.Bad)
	wantState(t, slices.Concat(make([]byte, sector), one[sector:]), frame.Bad)
}

func TestTruncatedAndExtended(t *testing.T) { // P4.5
	frames := someFrames(t)
	for _, b := range frames {
		for n := range b {
			wantState(t, b[:n], frame.Bad)
			wantState(t, b[n+1:], frame.Bad)
			// What is behind the end, within the capacity, is no part of the bytes.
			long := append(bytes.Clone(b), b[:n+1]...)
			wantState(t, long, frame.Bad)
			if state, _, _ := frame.Open(long[:len(b)]); state != frame.Good {
				t.Errorf("%d behind the end: %d", n+1, state)
			}
		}
		for _, n := range []int{1, 2, 4, 63, 64, 65, 128, 1 << 16} {
			for _, fill := range []byte{0, 1, 255} {
				more := bytes.Repeat([]byte{fill}, n)
				wantState(t, slices.Concat(b, more), frame.Bad)
				wantState(t, slices.Concat(more, b), frame.Bad)
			}
		}
		for _, other := range frames {
			wantState(t, slices.Concat(b, other), frame.Bad)
		}
	}
}

// TestOneSectorOfTwo tries a frame of two sectors whose first one is, byte for byte, also a frame of one sector: the checksum of that one is 0, like the padding in its place. Such bytes are a frame, and so they are good.
func TestOneSectorOfTwo(t *testing.T) { // P4.2, P4.4
	body := slices.Concat(bytes.Repeat([]byte{7}, 39), []byte{160, 38, 111, 213})
	short, long := seal(t, plain, body, 1), seal(t, plain, body, 2)
	if !bytes.Equal(short, long[:sector]) {
		t.Fatalf("%v and %v", short, long[:sector])
	}
	wantGood(t, short, plain, body)
	wantGood(t, long, plain, body)
}

func TestSealedOnceMore(t *testing.T) { // P4.4
	for _, x := range tags() {
		for _, sectors := range sizes {
			room := rooms[sectors]
			for _, n := range []int{0, 1, 2, 42, 43, room} {
				b := seal(t, x, bytes.Repeat([]byte{200}, n), sectors)
				_, y, body := frame.Open(b)
				if again := seal(t, y, body, sectors); !bytes.Equal(again, b) {
					t.Errorf("Seal(%v, %v, %d): %v; want %v", y, body, sectors, again, b)
				}
			}
		}
	}
}

func TestSealSharesNothing(t *testing.T) { // 'Rules that hold everywhere'
	for _, sectors := range sizes {
		backing := []byte{5, 1, 2, 3, 6, 7, 8, 9}
		kept := bytes.Clone(backing)
		b := seal(t, plain, backing[1:4], sectors)
		want := built(plain, []byte{1, 2, 3}, sectors)
		if !bytes.Equal(backing, kept) {
			t.Errorf("Seal changed its argument: %v", backing)
		}
		clear(backing)
		if !bytes.Equal(b, want) {
			t.Errorf("after a change of the body: %v", b)
		}
		other := seal(t, plain, kept[1:4], sectors)
		clear(b[:cap(b)])
		if !bytes.Equal(other, want) || !bytes.Equal(kept, []byte{5, 1, 2, 3, 6, 7, 8, 9}) {
			t.Errorf("after a change of the first frame: %v, %v", other, kept)
		}
		if b := seal(t, plain, kept[1:4], sectors); !bytes.Equal(b, want) {
			t.Errorf("after both: %v", b)
		}
	}
}

func TestWhatIsToldIsTheCallersOwn(t *testing.T) { // 'Rules that hold everywhere'
	open := func(b []byte) (uint8, tag.Tag, []byte) { return frame.Open(b) }
	mine := func(b []byte) (uint8, tag.Tag, []byte) {
		return frame.Mine(b, plain.Replica, plain.Region, plain.Place)
	}
	for _, call := range []func([]byte) (uint8, tag.Tag, []byte){open, mine} {
		for _, sectors := range sizes {
			for _, want := range [][]byte{{}, {1}, {1, 2, 3}, bytes.Repeat([]byte{9}, rooms[sectors])} {
				b := seal(t, plain, want, sectors)
				kept := bytes.Clone(b)
				_, _, first := call(b)
				_, _, second := call(b)
				for range 200 {
					first = append(first, 77)
				}
				_, _, first = call(b)
				clear(first[:cap(first)])
				if !bytes.Equal(b, kept) {
					t.Errorf("the bytes that were opened: %v; want %v", b, kept)
				}
				if !bytes.Equal(second, want) {
					t.Errorf("what was told before: %v; want %v", second, want)
				}
				wantGood(t, b, plain, want)
				clear(b)
				if !bytes.Equal(second, want) {
					t.Errorf("after a change of the bytes: %v; want %v", second, want)
				}
			}
		}
	}
}

func TestBodyEndsWithItself(t *testing.T) { // P4.2, 'Ways'
	for _, sectors := range sizes {
		for _, n := range []int{0, 1, 43} {
			_, _, body := frame.Open(seal(t, plain, make([]byte, n), sectors))
			if cap(body) != n {
				t.Errorf("%d bytes in %d sectors: capacity %d", n, sectors, cap(body))
			}
		}
	}
}

func TestBytesAreNotChanged(t *testing.T) { // 'Rules that hold everywhere'
	for _, b := range append(someFrames(t), make([]byte, 64), make([]byte, 128), bytes.Repeat([]byte{3}, 64), make([]byte, 65)) {
		kept := bytes.Clone(b)
		frame.Open(b)
		frame.Mine(b, 1, 4, 47)
		if !bytes.Equal(b, kept) {
			t.Errorf("%v; want %v", b, kept)
		}
	}
}
