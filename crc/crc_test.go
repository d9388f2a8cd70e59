package crc_test

import (
	"bytes"
	"hash/crc32"
	"math"
	"math/bits"
	"slices"
	"testing"

	"sexton/api"
	"sexton/crc"
)

const most = 1 << 20

// shifted returns a register after one bit, as the chapter defines it.
func shifted(register, bit uint32) uint32 {
	differs := register&1 != bit
	register >>= 1
	if differs {
		register ^= 0x82f63b78
	}
	return register
}

// afterBytes returns a register after bytes, the lowest bit of each one first.
func afterBytes(register uint32, b []byte) uint32 {
	for _, next := range b {
		for i := range 8 {
			register = shifted(register, uint32(next)>>i&1)
		}
	}
	return register
}

// defined returns the checksum of bytes as the chapter defines it.
func defined(b []byte) uint32 { return ^afterBytes(0xffffffff, b) }

// numbers tells one number after another that looks like chance and is the same in each run.
type numbers uint64

func (r *numbers) next() uint32 {
	*r = *r*6364136223846793005 + 1442695040888963407
	return bits.RotateLeft32(uint32(*r>>27), int(*r>>59))
}

func (r *numbers) below(n int) int { return int(r.next() % uint32(n)) }

func (r *numbers) bytes(n int) []byte {
	b := make([]byte, n)
	for i := range b {
		b[i] = byte(r.next())
	}
	return b
}

// samples returns byte strings of all small lengths, and of some greater ones.
func samples() [][]byte {
	r := numbers(1)
	l := [][]byte{nil, {}, []byte("123456789"), make([]byte, 32), bytes.Repeat([]byte{255}, 32)}
	for n := range 70 {
		l = append(l, r.bytes(n), make([]byte, n), bytes.Repeat([]byte{255}, n))
	}
	return append(l, r.bytes(1000), r.bytes(4096))
}

// sums returns checksums of all kinds.
func sums() []uint32 {
	r := numbers(2)
	l := []uint32{0, 1, 0x7fffffff, 0x80000000, 0x82f63b78, 0xe3069283, 0xfffffffe, 0xffffffff}
	for i := range 32 {
		l = append(l, 1<<i, r.next())
	}
	return l
}

func combine(t *testing.T, a, b uint32, n int) uint32 {
	t.Helper()
	s, e := crc.Combine(a, b, n)
	if e != api.OK {
		t.Fatalf("Combine(%08x, %08x, %d): error %d", a, b, n, e)
	}
	return s
}

func TestSumOfKnownBytes(t *testing.T) { // P2.1
	for _, c := range []struct {
		b    []byte
		want uint32
	}{
		{nil, 0},
		{[]byte{}, 0},
		{[]byte("123456789"), 0xe3069283},
		{make([]byte, 32), 0x8a9136aa},
		{bytes.Repeat([]byte{255}, 32), 0x62a8ab43},
	} {
		if s := crc.Sum(c.b); s != c.want {
			t.Errorf("Sum(%v): %08x; want %08x", c.b, s, c.want)
		}
	}
}

func TestSumAsDefined(t *testing.T) { // P2.1
	for _, b := range samples() {
		if s, want := crc.Sum(b), defined(b); s != want {
			t.Errorf("Sum(%v): %08x; want %08x", b, s, want)
		}
	}
	for n := range 1 << 16 {
		b := []byte{byte(n >> 8), byte(n)}
		if s, want := crc.Sum(b), defined(b); s != want {
			t.Fatalf("Sum(%v): %08x; want %08x", b, s, want)
		}
	}
}

func TestSumOfManyBytes(t *testing.T) { // P2.1
	r := numbers(3)
	table := crc32.MakeTable(crc32.Castagnoli)
	for _, n := range []int{1 << 16, most - 1, most, most + 1, 3 * most} {
		b := r.bytes(n)
		if s, want := crc.Sum(b), crc32.Checksum(b, table); s != want {
			t.Errorf("%d bytes: %08x; want %08x", n, s, want)
		}
	}
}

func TestExtendAsDefined(t *testing.T) { // P2.1
	for _, sum := range sums() {
		for _, b := range samples() {
			if s, want := crc.Extend(sum, b), ^afterBytes(^sum, b); s != want {
				t.Fatalf("Extend(%08x, %v): %08x; want %08x", sum, b, s, want)
			}
		}
		if s := crc.Extend(sum, nil); s != sum {
			t.Errorf("Extend(%08x, nil): %08x", sum, s)
		}
	}
}

func TestCombineAsDefined(t *testing.T) { // P2.2
	zeros := make([]byte, 4096)
	for _, n := range []int{0, 1, 2, 3, 4, 5, 7, 8, 15, 16, 31, 32, 33, 63, 64, 100, 255, 256, 4095, 4096} {
		for _, a := range sums() {
			after := afterBytes(a, zeros[:n])
			for _, b := range sums() {
				if s := combine(t, a, b, n); s != b^after {
					t.Fatalf("Combine(%08x, %08x, %d): %08x; want %08x", a, b, n, s, b^after)
				}
			}
		}
	}
}

func TestCombineOfKnownSums(t *testing.T) { // P2.2
	if s := combine(t, crc.Sum([]byte("1234")), crc.Sum([]byte("56789")), 5); s != 0xe3069283 {
		t.Errorf("%08x", s)
	}
	if s := combine(t, 0xe3069283, 0x8a9136aa, 0); s != 0xe3069283^0x8a9136aa {
		t.Errorf("n 0: %08x", s)
	}
	for _, n := range []int{0, 1, 5, most} {
		if s := combine(t, 0, 0xe3069283, n); s != 0xe3069283 {
			t.Errorf("n %d behind nothing: %08x", n, s)
		}
	}
}

func TestCombineWithGreatLengths(t *testing.T) { // P2.2
	zeros := make([]byte, most)
	for _, n := range []int{1 << 16, 1<<19 - 1, 1 << 19, most - 2, most - 1, most} {
		for _, a := range []uint32{0, 1, 0x80000000, 0xdeadbeef, 0xffffffff} {
			after := afterBytes(a, zeros[:n])
			for _, b := range []uint32{0, 0x12345678, 0xffffffff} {
				if s := combine(t, a, b, n); s != b^after {
					t.Errorf("Combine(%08x, %08x, %d): %08x; want %08x", a, b, n, s, b^after)
				}
			}
		}
	}
}

func TestCombineWithWrongLengths(t *testing.T) { // P2.2
	wrong := []int{math.MinInt, math.MinInt + 1, -1 << 32, -most - 1, -most, -2, -1, most + 1, most + 2, 2 * most, math.MaxInt32, 1 << 32, 1<<32 + 5, math.MaxInt - 1, math.MaxInt}
	for _, n := range wrong {
		for _, a := range sums() {
			for _, b := range []uint32{0, 1, 0xe3069283, 0xffffffff} {
				if s, e := crc.Combine(a, b, n); s != 0 || e != api.ErrArg {
					t.Fatalf("Combine(%08x, %08x, %d): %08x, %d", a, b, n, s, e)
				}
			}
		}
	}
}

func TestTurned(t *testing.T) { // P2.3
	for _, c := range []struct {
		a, b []byte
		want int
	}{
		{nil, nil, 0},
		{nil, []byte{}, 0},
		{[]byte{1, 2}, []byte{3, 2}, 1},
		{[]byte{0}, []byte{255}, 8},
		{[]byte{255, 0, 1}, []byte{0, 0, 3}, 9},
		{[]byte{1, 2, 3}, []byte{1, 2, 3}, 0},
		{[]byte{0x80, 0, 0, 1}, []byte{0, 0, 0, 0}, 2},
		{make([]byte, most), bytes.Repeat([]byte{255}, most), 8 * most},
		{[]byte{1}, []byte{1, 2}, -1},
		{[]byte{1, 2}, []byte{1}, -1},
		{nil, []byte{0}, -1},
		{[]byte{0}, nil, -1},
		{[]byte{}, []byte{0}, -1},
		{make([]byte, 4096), make([]byte, 4095), -1},
	} {
		if n := crc.Turned(c.a, c.b); n != c.want {
			t.Errorf("%d and %d bytes: %d; want %d", len(c.a), len(c.b), n, c.want)
		}
	}
	for n := range 1 << 16 {
		x, y := byte(n>>8), byte(n)
		if got := crc.Turned([]byte{9, x}, []byte{9, y}); got != bits.OnesCount8(x^y) {
			t.Fatalf("%d and %d: %d", x, y, got)
		}
	}
}

func TestConcatenationOfTwo(t *testing.T) { // P2.4
	for _, b := range samples() {
		want := crc.Sum(b)
		for at := range len(b) + 1 {
			first, second := b[:at], b[at:]
			if s := crc.Extend(crc.Sum(first), second); s != want {
				t.Fatalf("%d bytes at %d extended: %08x; want %08x", len(b), at, s, want)
			}
			if s := combine(t, crc.Sum(first), crc.Sum(second), len(second)); s != want {
				t.Fatalf("%d bytes at %d combined: %08x; want %08x", len(b), at, s, want)
			}
		}
	}
}

func TestConcatenationOfGreatParts(t *testing.T) { // P2.4
	r := numbers(4)
	b := r.bytes(2*most + 3)
	for _, at := range []int{most + 3, most + 4, most + 1000, 2 * most, 2*most + 2, 2*most + 3} {
		want := crc.Sum(b)
		first, second := b[:at], b[at:]
		if s := crc.Extend(crc.Sum(first), second); s != want {
			t.Errorf("at %d extended: %08x; want %08x", at, s, want)
		}
		if s := combine(t, crc.Sum(first), crc.Sum(second), len(second)); s != want {
			t.Errorf("at %d combined: %08x; want %08x", at, s, want)
		}
	}
}

func TestConcatenationOfMany(t *testing.T) { // P2.4
	r := numbers(5)
	for range 200 {
		var all []byte
		extended, combined := crc.Sum(nil), crc.Sum(nil)
		for range r.below(8) {
			part := r.bytes(r.below(40) * r.below(3))
			all = append(all, part...)
			extended = crc.Extend(extended, part)
			combined = combine(t, combined, crc.Sum(part), len(part))
		}
		if want := crc.Sum(all); extended != want || combined != want {
			t.Errorf("%v: %08x extended, %08x combined; want %08x", all, extended, combined, want)
		}
	}
}

// turn turns bits of b about, in order from the lowest one of the first byte on; the same call once more undoes it.
func turn(b []byte, places ...int) {
	for _, p := range places {
		b[p/8] ^= 1 << (p % 8)
	}
}

// wantDetected fails if b has the same checksum, which is sum, after bits are turned about.
func wantDetected(t *testing.T, b []byte, sum uint32, places ...int) {
	t.Helper()
	turn(b, places...)
	if crc.Sum(b) == sum {
		t.Fatalf("%d bytes, bits %v: not detected", len(b), places)
	}
	turn(b, places...)
}

func TestUpToThreeBitsAreDetected(t *testing.T) { // P2.5
	r := numbers(6)
	for _, b := range [][]byte{make([]byte, 9), r.bytes(9)} {
		sum := crc.Sum(b)
		for i := range 8 * len(b) {
			wantDetected(t, b, sum, i)
			for j := range i {
				wantDetected(t, b, sum, i, j)
				for k := range j {
					wantDetected(t, b, sum, i, j, k)
				}
			}
		}
	}
}

func TestUpToThreeBitsOfManyBytesAreDetected(t *testing.T) { // P2.5
	r := numbers(7)
	b := r.bytes(most)
	sum := crc.Sum(b)
	last := 8*most - 1
	places := []int{0, 31, 32, last / 2, last - 32, last}
	for i, x := range places {
		wantDetected(t, b, sum, x)
		for j, y := range places[:i] {
			wantDetected(t, b, sum, x, y)
			for _, z := range places[:j] {
				wantDetected(t, b, sum, x, y, z)
			}
		}
	}
}

// effects returns by how much a checksum changes with each bit of as many bytes, which P2.6 lets stand for all strings: the last byte's bits first.
func effects(n int) []uint32 {
	l := make([]uint32, 0, 8*n)
	zero := []byte{0}
	still := crc.Sum(zero)
	for i := range 8 {
		l = append(l, crc.Sum([]byte{1 << i})^still)
	}
	for i := range 8 * (n - 1) {
		l = append(l, crc.Extend(l[i], zero)^still)
	}
	return l
}

func TestAnyBitsOfManyBytesAreDetected(t *testing.T) { // P2.5
	l := effects(most)
	for i, effect := range l {
		// Effects of an odd number of bits each: no odd number of them cancels out, so neither do one or three.
		if bits.OnesCount32(effect)%2 == 0 {
			t.Fatalf("bit %d: %08x", i, effect)
		}
	}
	// And no two of them do if all differ.
	slices.Sort(l)
	if len(slices.Compact(l)) != 8*most {
		t.Errorf("two bits have one effect")
	}
}

func TestOddNumbersOfBitsAreDetected(t *testing.T) { // P2.5
	r := numbers(8)
	for range 5000 {
		b := r.bytes(1 + r.below(200))
		other := r.bytes(len(b))
		if crc.Turned(b, other)%2 == 0 {
			turn(other, r.below(8*len(b)))
		}
		if crc.Sum(b) == crc.Sum(other) {
			t.Errorf("%v and %v: %08x", b, other, crc.Sum(b))
		}
	}
	for n := range 1 << 16 {
		b := []byte{byte(n), byte(n >> 8)}
		if crc.Turned(b, []byte{0, 0})%2 == 1 && crc.Sum(b) == crc.Sum([]byte{0, 0}) {
			t.Errorf("%v: as 0 0", b)
		}
	}
}

// within returns the places from a first one on that a pattern of 32 bits names.
func within(first int, pattern uint32) []int {
	var l []int
	for i := range 32 {
		if pattern>>i&1 == 1 {
			l = append(l, first+i)
		}
	}
	return l
}

func TestBitsWithin32AreDetected(t *testing.T) { // P2.5
	r := numbers(9)
	b := r.bytes(20)
	sum := crc.Sum(b)
	for first := range 8*len(b) - 31 {
		wantDetected(t, b, sum, within(first, 0xffffffff)...)
		wantDetected(t, b, sum, within(first, 0x80000001)...)
		for range 300 {
			wantDetected(t, b, sum, within(first, r.next()|1)...)
		}
	}
	for width := range 16 {
		for pattern := range 1 << width {
			wantDetected(t, b, sum, within(70, uint32(pattern<<1|1))...)
		}
	}
}

func TestBitsWithin32OfManyBytesAreDetected(t *testing.T) { // P2.5
	r := numbers(10)
	b := r.bytes(most)
	sum := crc.Sum(b)
	for _, first := range []int{0, 5, 4*most - 3, 8*most - 39, 8*most - 32} {
		for _, pattern := range []uint32{1, 0xffffffff, 0x80000001, r.next() | 1} {
			wantDetected(t, b, sum, within(first, pattern)...)
		}
	}
}

// independent reports whether no choice of numbers xored, but that of none, comes to 0.
func independent(l []uint32) bool {
	var byTop [32]uint32
	for _, x := range l {
		for x != 0 && byTop[bits.Len32(x)-1] != 0 {
			x ^= byTop[bits.Len32(x)-1]
		}
		if x == 0 {
			return false
		}
		byTop[bits.Len32(x)-1] = x
	}
	return true
}

func TestAllPatternsWithin32AreDetected(t *testing.T) { // P2.5
	const size = 512
	l := effects(size)
	for first := range 8*size - 31 {
		var window []uint32
		for _, p := range within(first, 0xffffffff) {
			window = append(window, l[8*(size-1-p/8)+p%8])
		}
		if !independent(window) {
			t.Fatalf("from bit %d on: a pattern is not detected", first)
		}
	}
}

func TestLinearity(t *testing.T) { // P2.6
	r := numbers(11)
	lengths := []int{0, 1, 2, 3, 4, 5, 8, 63, 64, 65, 88, 1000, most}
	for range 300 {
		lengths = append(lengths, r.below(300))
	}
	for _, n := range lengths {
		a, b, c := r.bytes(n), r.bytes(n), r.bytes(n)
		d := make([]byte, n)
		for i := range d {
			d[i] = a[i] ^ b[i] ^ c[i]
		}
		if s, want := crc.Sum(d), crc.Sum(a)^crc.Sum(b)^crc.Sum(c); s != want {
			t.Errorf("%d bytes: %08x; want %08x", n, s, want)
		}
	}
}

func TestLinearityOfAllPairsOfBytes(t *testing.T) { // P2.6
	zero := crc.Sum([]byte{0})
	for n := range 1 << 16 {
		x, y := byte(n>>8), byte(n)
		if s, want := crc.Sum([]byte{x ^ y}), crc.Sum([]byte{x})^crc.Sum([]byte{y})^zero; s != want {
			t.Fatalf("%d and %d: %08x; want %08x", x, y, s, want)
		}
	}
}

func TestCallsDependOnTheirArgumentsOnly(t *testing.T) { // 'Rules that hold everywhere'
	r := numbers(12)
	backing := r.bytes(64)
	kept := bytes.Clone(backing)
	b := backing[8:40]
	sum, extended, turned := crc.Sum(b), crc.Extend(5, b), crc.Turned(b, backing[9:41])
	combined := combine(t, sum, extended, 32)
	if !bytes.Equal(backing, kept) {
		t.Errorf("arguments changed: %v", backing)
	}
	clear(backing[:8])
	clear(backing[41:])
	if crc.Sum(b) != sum || crc.Extend(5, b) != extended || crc.Turned(b, backing[9:41]) != turned || combine(t, sum, extended, 32) != combined {
		t.Errorf("another result at the second call")
	}
}
