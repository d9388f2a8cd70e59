package disk_test

import (
	"bytes"
	"maps"
	"math"
	"math/rand"
	"slices"
	"testing"

	"sexton/api"
	"sexton/disk"
)

const (
	wide = 64 // bytes of a sector
	most = 1024
)

// full returns a sector's bytes, all of them x.
func full(x byte) []byte { return bytes.Repeat([]byte{x}, wide) }

// varied returns a sector's bytes, which differ from place to place.
func varied(x byte) []byte {
	b := full(x)
	for i := range b {
		b[i] += byte(3 * i)
	}
	return b
}

// turned returns the bytes with bits turned about, each counted from the lowest one of the first byte on.
func turned(b []byte, bits ...int) []byte {
	b = bytes.Clone(b)
	for _, i := range bits {
		b[i/8] ^= 1 << (i % 8)
	}
	return b
}

// wrongSectors returns numbers of sectors that a disk of that size does not have, some of which would be such numbers if cut to fewer bits.
func wrongSectors(size int) []int {
	return []int{math.MinInt, math.MinInt + 1, -1 << 32, -1 << 16, -size, -2, -1, size, size + 1, 2 * size, 1 << 16, 1 << 32, 1<<32 + 1, math.MaxInt - 1, math.MaxInt}
}

// wrongNumbers returns numbers below 0.
func wrongNumbers() []int {
	return []int{-1, -2, -511, -512, -513, -1 << 32, math.MinInt + 1, math.MinInt}
}

func made(t *testing.T, sectors int) *disk.Disk {
	t.Helper()
	d, e := disk.New(sectors)
	if e != api.OK || d == nil {
		t.Fatalf("New(%d): %v, %d", sectors, d, e)
	}
	return d
}

// written returns a disk whose sectors hold varied(1), varied(2), and so on.
func written(t *testing.T, sectors int) *disk.Disk {
	t.Helper()
	d := made(t, sectors)
	for s := range sectors {
		want(t, "write", d.Write(s, varied(byte(s+1))), api.OK)
	}
	want(t, "flush", d.Flush(), api.OK)
	return d
}

// want wants a call to have come to an error, or to OK.
func want(t *testing.T, call string, e, wanted api.Errno) {
	t.Helper()
	if e != wanted {
		t.Errorf("%s: %d; want %d", call, e, wanted)
	}
}

func wantRead(t *testing.T, d *disk.Disk, sector int, wanted []byte) {
	t.Helper()
	if b, e := d.Read(sector); e != api.OK || !bytes.Equal(b, wanted) {
		t.Errorf("Read(%d): %v, %d; want %v", sector, b, e, wanted)
	}
}

func wantReadError(t *testing.T, d *disk.Disk, sector int, wanted api.Errno) {
	t.Helper()
	if b, e := d.Read(sector); e != wanted || b != nil {
		t.Errorf("Read(%d): %v, %d; want error %d", sector, b, e, wanted)
	}
}

func wantRest(t *testing.T, d *disk.Disk, sector int, wanted []byte) {
	t.Helper()
	if b, lost, e := d.Rest(sector); e != api.OK || lost || !bytes.Equal(b, wanted) {
		t.Errorf("Rest(%d): %v, %v, %d; want %v", sector, b, lost, e, wanted)
	}
}

// wantLost wants a sector to be lost at rest.
func wantLost(t *testing.T, d *disk.Disk, sector int) {
	t.Helper()
	if b, lost, e := d.Rest(sector); e != api.OK || !lost || b != nil {
		t.Errorf("Rest(%d): %v, %v, %d; want it lost", sector, b, lost, e)
	}
}

func wantMeant(t *testing.T, d *disk.Disk, sector int, wanted []byte) {
	t.Helper()
	if b, e := d.Meant(sector); e != api.OK || !bytes.Equal(b, wanted) {
		t.Errorf("Meant(%d): %v, %d; want %v", sector, b, e, wanted)
	}
}

// wantHeld wants a sector to hold bytes at rest, as it is meant to, and as it is read.
func wantHeld(t *testing.T, d *disk.Disk, sector int, wanted []byte) {
	t.Helper()
	wantRead(t, d, sector, wanted)
	wantRest(t, d, sector, wanted)
	wantMeant(t, d, sector, wanted)
}

func wantWaits(t *testing.T, d *disk.Disk, wanted int) {
	t.Helper()
	if n := d.Waits(); n != wanted {
		t.Errorf("Waits: %d; want %d", n, wanted)
	}
}

func wantUp(t *testing.T, d *disk.Disk, wanted bool) {
	t.Helper()
	if d.Up() != wanted {
		t.Errorf("Up: %v", !wanted)
	}
}

// kill makes a disk's power fail.
func kill(t *testing.T, d *disk.Disk) {
	t.Helper()
	want(t, "power", d.Power(0), api.OK)
	want(t, "flush without power", d.Flush(), api.ErrDown)
	wantUp(t, d, false)
}

// crash crashes a disk and starts it again.
func crash(t *testing.T, d *disk.Disk, keep ...bool) {
	t.Helper()
	want(t, "crash", d.Crash(keep), api.OK)
	wantUp(t, d, false)
	want(t, "start", d.Start(), api.OK)
	wantUp(t, d, true)
}

func TestExamples(t *testing.T) { // P5.2, P5.3, P5.4, P5.5, P5.6
	d := made(t, 4)
	want(t, "write", d.Write(1, full(9)), api.OK)
	crash(t, d)
	wantRead(t, d, 1, full(0))

	d = made(t, 4)
	want(t, "write", d.Write(1, full(1)), api.OK)
	want(t, "write", d.Write(2, full(2)), api.OK)
	crash(t, d, false, true)
	wantRead(t, d, 1, full(0))
	wantRead(t, d, 2, full(2))

	d = made(t, 4)
	want(t, "flip", d.Flip(0, 9), api.OK)
	wantRead(t, d, 0, append([]byte{0, 2}, make([]byte, 62)...))
	wantMeant(t, d, 0, full(0))

	d = made(t, 4)
	want(t, "lose", d.Lose(3), api.OK)
	wantReadError(t, d, 3, api.ErrLost)
	want(t, "write", d.Write(3, full(5)), api.OK)
	wantRead(t, d, 3, full(5))
	want(t, "flush", d.Flush(), api.OK)
	wantRead(t, d, 3, full(5))
}

func TestNew(t *testing.T) { // P5.1
	for size := 1; size <= most; size++ {
		d := made(t, size)
		if d.Size() != size || d.Waits() != 0 || !d.Up() {
			t.Errorf("%d sectors: %d, %d waiting, up %v", size, d.Size(), d.Waits(), d.Up())
		}
	}
	for _, size := range []int{1, 2, 63, 64, 156, most - 1, most} {
		d := made(t, size)
		for s := range size {
			wantHeld(t, d, s, full(0))
		}
	}
}

func TestNewOfWrongSizes(t *testing.T) { // P5.1
	for _, size := range []int{math.MinInt, math.MinInt + 1, -1 << 32, -most, -2, -1, 0, most + 1, most + 2, 2 * most, 1 << 16, 1 << 32, 1<<32 + 1, math.MaxInt - 1, math.MaxInt} {
		if d, e := disk.New(size); d != nil || e != api.ErrArg {
			t.Errorf("New(%d): %v, %d", size, d, e)
		}
	}
}

func TestSizeInEachState(t *testing.T) { // P5.1
	d := made(t, 7)
	want(t, "write", d.Write(6, full(1)), api.OK)
	for _, change := range []func(){
		func() { kill(t, d) },
		func() { want(t, "crash", d.Crash(nil), api.OK) },
		func() { want(t, "start", d.Start(), api.OK) },
	} {
		change()
		if d.Size() != 7 {
			t.Errorf("%d", d.Size())
		}
	}
}

func TestDisksAreTheirOwn(t *testing.T) { // P5.1
	d, other := made(t, 2), made(t, 2)
	want(t, "write", d.Write(0, full(1)), api.OK)
	want(t, "flush", d.Flush(), api.OK)
	want(t, "lose", d.Lose(1), api.OK)
	want(t, "write", d.Write(1, full(2)), api.OK)
	kill(t, d)
	wantHeld(t, other, 0, full(0))
	wantHeld(t, other, 1, full(0))
	wantWaits(t, other, 0)
	wantUp(t, other, true)
}

func TestWriteAndRead(t *testing.T) { // P5.2, P5.3
	d := made(t, 3)
	for i, w := range []struct {
		sector int
		value  byte
	}{{0, 10}, {2, 20}, {0, 30}, {0, 40}, {2, 50}} {
		want(t, "write", d.Write(w.sector, varied(w.value)), api.OK)
		wantWaits(t, d, i+1)
		wantRead(t, d, w.sector, varied(w.value))
		for s := range 3 {
			wantRest(t, d, s, full(0))
			wantMeant(t, d, s, full(0))
		}
	}
	wantRead(t, d, 0, varied(40))
	wantRead(t, d, 1, full(0))
	wantRead(t, d, 2, varied(50))
	wantWaits(t, d, 5)
	want(t, "flush", d.Flush(), api.OK)
	wantWaits(t, d, 0)
	wantHeld(t, d, 0, varied(40))
	wantHeld(t, d, 1, full(0))
	wantHeld(t, d, 2, varied(50))
	want(t, "flush of nothing", d.Flush(), api.OK)
	wantHeld(t, d, 0, varied(40))
	want(t, "write", d.Write(0, full(0)), api.OK)
	wantRead(t, d, 0, full(0))
	wantRest(t, d, 0, varied(40))
	wantMeant(t, d, 0, varied(40))
}

// TestReadAgain reads bytes that were written before others of the same sector, which must not come back.
func TestReadAgain(t *testing.T) { // P5.2, P5.3
	d := made(t, 1)
	for x := range 200 {
		want(t, "write", d.Write(0, varied(byte(x))), api.OK)
		if x%3 == 0 {
			want(t, "flush", d.Flush(), api.OK)
			wantRest(t, d, 0, varied(byte(x)))
		}
		wantRead(t, d, 0, varied(byte(x)))
		wantRead(t, d, 0, varied(byte(x)))
		wantWaits(t, d, x%3)
	}
}

func TestEachSectorOfTheGreatestDisk(t *testing.T) { // P5.2, P5.3, P5.9
	d := made(t, most)
	for s := range most {
		want(t, "write", d.Write(s, slices.Concat(full(byte(s))[:32], full(byte(s >> 8))[:32])), api.OK)
	}
	wantWaits(t, d, most)
	for range 2 {
		for s := range most {
			wantRead(t, d, s, slices.Concat(full(byte(s))[:32], full(byte(s >> 8))[:32]))
		}
		want(t, "flush", d.Flush(), api.OK)
	}
}

func TestWrongSectors(t *testing.T) { // P5.2, P5.5, P5.6
	for _, size := range []int{1, 3, most} {
		d := written(t, size)
		for _, s := range wrongSectors(size) {
			wantReadError(t, d, s, api.ErrArg)
			want(t, "write", d.Write(s, full(9)), api.ErrArg)
			want(t, "flip", d.Flip(s, 0), api.ErrArg)
			want(t, "lose", d.Lose(s), api.ErrArg)
			want(t, "stray from", d.Stray(s, 0), api.ErrArg)
			want(t, "stray to", d.Stray(0, s), api.ErrArg)
			want(t, "stray from and to", d.Stray(s, s), api.ErrArg)
			if b, lost, e := d.Rest(s); b != nil || lost || e != api.ErrArg {
				t.Errorf("Rest(%d): %v, %v, %d", s, b, lost, e)
			}
			if b, e := d.Meant(s); b != nil || e != api.ErrArg {
				t.Errorf("Meant(%d): %v, %d", s, b, e)
			}
		}
		wantWaits(t, d, 0)
		wantHeld(t, d, 0, varied(1))
		wantHeld(t, d, size-1, varied(byte(size)))
		want(t, "write", d.Write(size-1, full(9)), api.OK)
		wantRead(t, d, size-1, full(9))
	}
}

func TestWriteOfWrongLengths(t *testing.T) { // P5.2
	d := written(t, 2)
	for _, n := range []int{0, 1, 32, 63, 65, 127, 128, 256, wide + 1<<16} {
		want(t, "write", d.Write(1, make([]byte, n)), api.ErrArg)
		// What is behind the end, within the capacity, does not count.
		want(t, "write", d.Write(1, make([]byte, n, n+wide)), api.ErrArg)
		want(t, "write nowhere", d.Write(2, make([]byte, n)), api.ErrArg)
	}
	want(t, "write of nil", d.Write(1, nil), api.ErrArg)
	wantWaits(t, d, 0)
	wantHeld(t, d, 1, varied(2))
	want(t, "write", d.Write(1, make([]byte, wide, 2*wide)), api.OK)
	wantRead(t, d, 1, full(0))
}

func TestWhatIsHandedInIsNotKept(t *testing.T) { // P5.2, P5.4
	d := made(t, 2)
	b := varied(1)
	want(t, "write", d.Write(0, b), api.OK)
	want(t, "write", d.Write(1, b), api.OK)
	if !bytes.Equal(b, varied(1)) {
		t.Errorf("changed: %v", b)
	}
	clear(b)
	wantRead(t, d, 0, varied(1))
	want(t, "flush", d.Flush(), api.OK)
	b[0] = 7
	wantHeld(t, d, 0, varied(1))
	wantHeld(t, d, 1, varied(1))

	want(t, "write", d.Write(0, full(5)), api.OK)
	keep := []bool{true, false, true}
	want(t, "crash", d.Crash(keep), api.OK)
	if !slices.Equal(keep, []bool{true, false, true}) {
		t.Errorf("changed: %v", keep)
	}
	keep[0] = false
	wantRest(t, d, 0, full(5))
}

func TestWhatIsToldIsTheCallersOwn(t *testing.T) { // P5.2, P5.6
	d := made(t, 2)
	want(t, "write", d.Write(0, varied(1)), api.OK)
	spoil := func(b []byte, e api.Errno) {
		t.Helper()
		want(t, "told", e, api.OK)
		clear(b)
		_ = append(b, 1, 2, 3)
		clear(b[:cap(b)])
	}
	spoil(d.Read(0))
	wantRead(t, d, 0, varied(1))
	want(t, "flush", d.Flush(), api.OK)
	wantHeld(t, d, 0, varied(1))
	for range 2 {
		spoil(d.Read(0))
		spoil(d.Meant(0))
		b, _, e := d.Rest(0)
		spoil(b, e)
		wantHeld(t, d, 0, varied(1))
		wantHeld(t, d, 1, full(0))
	}
	one, _ := d.Read(0)
	other, _ := d.Read(0)
	clear(one)
	if !bytes.Equal(other, varied(1)) {
		t.Errorf("told together: %v", other)
	}
	// Nor does a later change of the disk reach what it told before.
	want(t, "flip", d.Flip(0, 0), api.OK)
	want(t, "write", d.Write(0, full(3)), api.OK)
	want(t, "flush", d.Flush(), api.OK)
	if !bytes.Equal(other, varied(1)) {
		t.Errorf("told before: %v", other)
	}
}

// TestKeeps crashes a disk with several pending writes of one sector, and of several, for each choice of those that come through.
func TestKeeps(t *testing.T) { // P5.4, P5.8
	sectors := []int{0, 1, 0, 2, 1, 0}
	for length := range 9 {
		for choice := range 1 << length {
			keep := make([]bool, length)
			for i := range keep {
				keep[i] = choice>>i&1 == 1
			}
			d := written(t, 4)
			wanted := [][]byte{varied(1), varied(2), varied(3), varied(4)}
			for i, s := range sectors {
				want(t, "write", d.Write(s, full(byte(100+i))), api.OK)
				if i < length && keep[i] {
					wanted[s] = full(byte(100 + i))
				}
			}
			crash(t, d, keep...)
			wantWaits(t, d, 0)
			for s := range wanted {
				wantHeld(t, d, s, wanted[s])
			}
		}
	}
}

func TestCrash(t *testing.T) { // P5.4
	d := written(t, 2)
	want(t, "write", d.Write(0, full(9)), api.OK)
	want(t, "crash", d.Crash(nil), api.OK)
	wantUp(t, d, false)
	wantWaits(t, d, 0)
	for _, keep := range [][]bool{nil, {}, {true}, {false, true}} {
		want(t, "crash when down", d.Crash(keep), api.ErrDown)
	}
	want(t, "start", d.Start(), api.OK)
	wantHeld(t, d, 0, varied(1))
	// A keep that is longer than the pending writes, of which there may be none.
	crash(t, d, true, true)
	wantHeld(t, d, 0, varied(1))
	want(t, "write", d.Write(1, full(8)), api.OK)
	crash(t, d, true, false, true)
	wantHeld(t, d, 1, full(8))
	// What was discarded does not come back with what is pending next.
	want(t, "write", d.Write(0, full(7)), api.OK)
	crash(t, d, false)
	want(t, "write", d.Write(1, full(6)), api.OK)
	crash(t, d, true, true)
	wantHeld(t, d, 0, varied(1))
	wantHeld(t, d, 1, full(6))
}

func TestStart(t *testing.T) { // P5.4
	d := made(t, 1)
	want(t, "start when up", d.Start(), api.ErrArg)
	wantUp(t, d, true)
	want(t, "write", d.Write(0, full(1)), api.OK)
	want(t, "start when up", d.Start(), api.ErrArg)
	wantWaits(t, d, 1)
	kill(t, d)
	want(t, "start when dead", d.Start(), api.ErrArg)
	wantUp(t, d, false)
	wantWaits(t, d, 1)
	wantReadError(t, d, 0, api.ErrDown)
	want(t, "crash", d.Crash(nil), api.OK)
	want(t, "start", d.Start(), api.OK)
	want(t, "start when up", d.Start(), api.ErrArg)
	wantUp(t, d, true)
}

// wantUnlimited wants a disk's power to last for more calls than any earlier Power granted.
func wantUnlimited(t *testing.T, d *disk.Disk) {
	t.Helper()
	for range 500 {
		want(t, "write", d.Write(0, full(1)), api.OK)
		want(t, "flush", d.Flush(), api.OK)
	}
	wantUp(t, d, true)
}

func TestPowerIsUnlimitedAtFirstAndAfterAStart(t *testing.T) { // P5.4
	d := made(t, 1)
	wantUnlimited(t, d)
	for _, n := range []int{0, 1, 5} {
		want(t, "power", d.Power(n), api.OK)
		crash(t, d)
		wantUnlimited(t, d)
		kill(t, d)
		crash(t, d)
		wantUnlimited(t, d)
	}
	// No number of calls is the unlimited one.
	for _, n := range []int{1 << 16, 1 << 31, 1 << 32, math.MaxInt - 1, math.MaxInt} {
		want(t, "power", d.Power(n), api.OK)
		wantUnlimited(t, d)
		want(t, "power", d.Power(1), api.OK)
		want(t, "flush", d.Flush(), api.OK)
		want(t, "flush", d.Flush(), api.ErrDown)
		crash(t, d)
	}
}

// TestPower grants power for n calls, and uses it up by each order of so many calls of Write and Flush, and one more.
func TestPower(t *testing.T) { // P5.4
	for n := range 6 {
		for order := range 1 << (n + 1) {
			d := written(t, 2)
			want(t, "power", d.Power(n), api.OK)
			wantUp(t, d, true)
			waits := 0
			call := func(i int) api.Errno {
				if order>>i&1 == 1 {
					return d.Flush()
				}
				return d.Write(i%2, full(byte(100+i)))
			}
			for i := range n {
				want(t, "with power", call(i), api.OK)
				wantUp(t, d, true)
				if waits++; order>>i&1 == 1 {
					waits = 0
				}
				wantWaits(t, d, waits)
			}
			rest, _, _ := d.Rest(0)
			want(t, "without power", call(n), api.ErrDown)
			wantUp(t, d, false)
			wantWaits(t, d, waits)
			wantRest(t, d, 0, rest)
			wantReadError(t, d, 0, api.ErrDown)
		}
	}
}

func TestWhatUsesNoPower(t *testing.T) { // P5.4
	for n := range 4 {
		d := written(t, 2)
		want(t, "lose", d.Lose(1), api.OK)
		want(t, "power", d.Power(n), api.OK)
		for range 10 {
			want(t, "write nowhere", d.Write(2, full(1)), api.ErrArg)
			want(t, "write nowhere", d.Write(-1, full(1)), api.ErrArg)
			want(t, "write of 63 bytes", d.Write(0, full(1)[:63]), api.ErrArg)
			want(t, "write of nil", d.Write(0, nil), api.ErrArg)
			wantUp(t, d, true)
			wantReadError(t, d, 1, api.ErrLost)
			wantReadError(t, d, 2, api.ErrArg)
			wantRead(t, d, 0, varied(1))
			wantRest(t, d, 0, varied(1))
			wantMeant(t, d, 0, varied(1))
			want(t, "start", d.Start(), api.ErrArg)
			want(t, "power", d.Power(-1), api.ErrArg)
			want(t, "flip", d.Flip(0, 0), api.OK)
			want(t, "flip", d.Flip(0, 0), api.OK)
			want(t, "lose", d.Lose(1), api.OK)
			want(t, "stray", d.Stray(0, 0), api.OK)
		}
		for range n {
			want(t, "flush", d.Flush(), api.OK)
		}
		want(t, "flush", d.Flush(), api.ErrDown)
		wantUp(t, d, false)
	}
}

func TestPowerAgain(t *testing.T) { // P5.4
	d := made(t, 1)
	for _, n := range []int{0, 3, 0, 1, 2, 0, 4} {
		want(t, "power", d.Power(n), api.OK)
		for range n {
			want(t, "write", d.Write(0, full(1)), api.OK)
		}
		for _, wrong := range wrongNumbers() {
			want(t, "power", d.Power(wrong), api.ErrArg)
		}
		wantUp(t, d, true)
	}
	want(t, "write", d.Write(0, full(1)), api.ErrDown)
	wantUp(t, d, false)
}

// wantOff wants a disk that is dead or down to refuse each call that needs it to be up, whatever else is wrong with the call.
func wantOff(t *testing.T, d *disk.Disk) {
	t.Helper()
	wantUp(t, d, false)
	waits := d.Waits()
	for _, s := range append(wrongSectors(d.Size()), 0, d.Size()-1) {
		wantReadError(t, d, s, api.ErrDown)
		want(t, "write", d.Write(s, full(1)), api.ErrDown)
		want(t, "write of 63 bytes", d.Write(s, full(1)[:63]), api.ErrDown)
		want(t, "write of nil", d.Write(s, nil), api.ErrDown)
	}
	want(t, "flush", d.Flush(), api.ErrDown)
	for _, n := range append(wrongNumbers(), 0, 1, math.MaxInt) {
		want(t, "power", d.Power(n), api.ErrDown)
	}
	wantWaits(t, d, waits)
	wantUp(t, d, false)
}

func TestDeadAndDown(t *testing.T) { // P5.2, P5.3, P5.4
	d := written(t, 3)
	want(t, "write", d.Write(0, full(7)), api.OK)
	want(t, "write", d.Write(1, full(8)), api.OK)
	want(t, "lose", d.Lose(2), api.OK)
	kill(t, d)
	wantOff(t, d)
	wantWaits(t, d, 2)
	wantRest(t, d, 0, varied(1))
	wantMeant(t, d, 0, varied(1))
	want(t, "crash", d.Crash([]bool{false, true}), api.OK)
	wantWaits(t, d, 0)
	wantOff(t, d)
	wantRest(t, d, 0, varied(1))
	wantRest(t, d, 1, full(8))
	want(t, "start", d.Start(), api.OK)
	wantHeld(t, d, 0, varied(1))
	wantHeld(t, d, 1, full(8))
	wantReadError(t, d, 2, api.ErrLost)
}

func TestFlip(t *testing.T) { // P5.5
	d := written(t, 2)
	for bit := range 512 {
		want(t, "flip", d.Flip(0, bit), api.OK)
		wantRead(t, d, 0, turned(varied(1), bit))
		wantRest(t, d, 0, turned(varied(1), bit))
		wantMeant(t, d, 0, varied(1))
		wantHeld(t, d, 1, varied(2))
		want(t, "flip", d.Flip(0, bit), api.OK)
		wantHeld(t, d, 0, varied(1))
	}
	for _, bits := range [][2]int{{512, 0}, {513, 1}, {1023, 511}, {1024, 0}, {512 * 7, 0}, {1 << 32, 0}, {1<<32 + 9, 9}, {math.MaxInt - 1, 510}, {math.MaxInt, 511}} {
		want(t, "flip", d.Flip(1, bits[0]), api.OK)
		wantRead(t, d, 1, turned(varied(2), bits[1]))
		want(t, "flip", d.Flip(1, bits[0]), api.OK)
		wantHeld(t, d, 1, varied(2))
	}
	for _, bit := range wrongNumbers() {
		want(t, "flip", d.Flip(0, bit), api.ErrArg)
		want(t, "flip nowhere", d.Flip(2, bit), api.ErrArg)
	}
	wantHeld(t, d, 0, varied(1))
	// Two different bits are both inverted, and a write puts an end to it.
	want(t, "flip", d.Flip(0, 0), api.OK)
	want(t, "flip", d.Flip(0, 511), api.OK)
	wantRead(t, d, 0, turned(varied(1), 0, 511))
	want(t, "write", d.Write(0, varied(1)), api.OK)
	wantRest(t, d, 0, turned(varied(1), 0, 511))
	want(t, "flush", d.Flush(), api.OK)
	wantHeld(t, d, 0, varied(1))
}

func TestLose(t *testing.T) { // P5.2, P5.3, P5.5, P5.6
	d := written(t, 3)
	for round := range byte(3) {
		want(t, "lose", d.Lose(1), api.OK)
		wantReadError(t, d, 1, api.ErrLost)
		wantLost(t, d, 1)
		want(t, "lose again", d.Lose(1), api.OK)
		want(t, "flip of a lost one", d.Flip(1, 3), api.OK)
		wantReadError(t, d, 1, api.ErrLost)
		wantHeld(t, d, 0, varied(1))
		wantHeld(t, d, 2, varied(3))

		want(t, "write", d.Write(1, varied(60+round)), api.OK)
		wantRead(t, d, 1, varied(60+round))
		wantLost(t, d, 1)
		want(t, "lose while a write is pending", d.Lose(1), api.OK)
		wantRead(t, d, 1, varied(60+round))
		crash(t, d, false)
		wantReadError(t, d, 1, api.ErrLost)
		wantLost(t, d, 1)

		want(t, "write", d.Write(1, varied(70+round)), api.OK)
		wantRead(t, d, 1, varied(70+round))
		want(t, "flush", d.Flush(), api.OK)
		wantHeld(t, d, 1, varied(70+round))

		want(t, "lose", d.Lose(1), api.OK)
		wantMeant(t, d, 1, varied(70+round))
		want(t, "write", d.Write(1, varied(80+round)), api.OK)
		crash(t, d, true)
		wantHeld(t, d, 1, varied(80+round))
	}
}

func TestStray(t *testing.T) { // P5.5, P5.6
	d := written(t, 3)
	want(t, "stray", d.Stray(0, 2), api.OK)
	wantRead(t, d, 2, varied(1))
	wantRest(t, d, 2, varied(1))
	wantMeant(t, d, 2, varied(3))
	wantHeld(t, d, 0, varied(1))
	wantHeld(t, d, 1, varied(2))
	want(t, "stray to itself", d.Stray(1, 1), api.OK)
	wantHeld(t, d, 1, varied(2))
	// What strays is what is at rest, not what is meant, nor what is pending; later changes do not reach where it went.
	want(t, "flip", d.Flip(1, 5), api.OK)
	want(t, "write", d.Write(1, full(9)), api.OK)
	want(t, "stray", d.Stray(1, 0), api.OK)
	wantRead(t, d, 1, full(9))
	wantRead(t, d, 0, turned(varied(2), 5))
	wantMeant(t, d, 0, varied(1))
	want(t, "flush", d.Flush(), api.OK)
	wantHeld(t, d, 1, full(9))
	wantRead(t, d, 0, turned(varied(2), 5))
	want(t, "flip", d.Flip(0, 5), api.OK)
	wantRead(t, d, 0, varied(2))
	wantHeld(t, d, 1, full(9))
}

func TestStrayOfLostSectors(t *testing.T) { // P5.5, P5.6
	d := written(t, 4)
	want(t, "lose", d.Lose(0), api.OK)
	want(t, "stray from a lost one", d.Stray(0, 1), api.OK)
	wantReadError(t, d, 0, api.ErrLost)
	wantReadError(t, d, 1, api.ErrLost)
	wantLost(t, d, 1)
	wantMeant(t, d, 1, varied(2))
	want(t, "stray of a lost one to itself", d.Stray(0, 0), api.OK)
	wantLost(t, d, 0)
	wantMeant(t, d, 0, varied(1))
	want(t, "stray to a lost one", d.Stray(2, 1), api.OK)
	wantRead(t, d, 1, varied(3))
	wantRest(t, d, 1, varied(3))
	wantMeant(t, d, 1, varied(2))
	wantLost(t, d, 0)
	wantHeld(t, d, 2, varied(3))
	wantHeld(t, d, 3, varied(4))
	want(t, "write", d.Write(0, varied(1)), api.OK)
	want(t, "flush", d.Flush(), api.OK)
	wantHeld(t, d, 0, varied(1))
	wantRead(t, d, 1, varied(3))
}

// TestFaultsInEachState has faults happen to sectors with pending writes, while the disk is up, dead and down.
func TestFaultsInEachState(t *testing.T) { // P5.5, P5.6
	for state, change := range map[string]func(d *disk.Disk){
		"up":   func(d *disk.Disk) {},
		"dead": func(d *disk.Disk) { kill(t, d) },
		"down": func(d *disk.Disk) { want(t, "crash", d.Crash(nil), api.OK) },
	} {
		d := written(t, 4)
		for s := range 4 {
			want(t, "write", d.Write(s, full(byte(100+s))), api.OK)
		}
		change(d)
		waits, isUp := d.Waits(), d.Up()
		want(t, state, d.Flip(0, 9), api.OK)
		want(t, state, d.Lose(1), api.OK)
		want(t, state, d.Stray(0, 2), api.OK)
		want(t, state, d.Stray(1, 3), api.OK)
		for _, e := range []api.Errno{d.Flip(4, 0), d.Flip(0, -1), d.Lose(-1), d.Stray(4, 0), d.Stray(0, 4)} {
			want(t, state, e, api.ErrArg)
		}
		wantRest(t, d, 0, turned(varied(1), 9))
		wantLost(t, d, 1)
		wantRest(t, d, 2, turned(varied(1), 9))
		wantLost(t, d, 3)
		for s := range 4 {
			wantMeant(t, d, s, varied(byte(s+1)))
		}
		wantWaits(t, d, waits)
		wantUp(t, d, isUp)
		if state == "down" {
			want(t, "start", d.Start(), api.OK)
			wantRead(t, d, 0, turned(varied(1), 9))
			wantReadError(t, d, 1, api.ErrLost)
			wantRead(t, d, 2, turned(varied(1), 9))
			wantReadError(t, d, 3, api.ErrLost)
			continue
		}
		crash(t, d, true, false, true, true)
		wantHeld(t, d, 0, full(100))
		wantReadError(t, d, 1, api.ErrLost)
		wantMeant(t, d, 1, varied(2))
		wantHeld(t, d, 2, full(102))
		wantHeld(t, d, 3, full(103))
	}
}

// TestFaultsUnderPendingWrites has what is read come from the pending write, and what is at rest from the fault.
func TestFaultsUnderPendingWrites(t *testing.T) { // P5.2, P5.5
	d := written(t, 2)
	want(t, "write", d.Write(0, full(7)), api.OK)
	for _, fault := range []func() api.Errno{
		func() api.Errno { return d.Flip(0, 511) },
		func() api.Errno { return d.Stray(1, 0) },
		func() api.Errno { return d.Lose(0) },
	} {
		want(t, "fault", fault(), api.OK)
		wantRead(t, d, 0, full(7))
		wantWaits(t, d, 1)
		wantMeant(t, d, 0, varied(1))
	}
	want(t, "flush", d.Flush(), api.OK)
	wantHeld(t, d, 0, full(7))
}

// wantNobody wants each call on a disk that New did not return to be refused, with arguments that are right and with such as are not.
func wantNobody(t *testing.T, d *disk.Disk) {
	t.Helper()
	if d.Size() != 0 || d.Waits() != 0 || d.Up() {
		t.Errorf("%d, %d waiting, up %v", d.Size(), d.Waits(), d.Up())
	}
	want(t, "flush", d.Flush(), api.ErrNil)
	want(t, "start", d.Start(), api.ErrNil)
	want(t, "crash", d.Crash(nil), api.ErrNil)
	want(t, "crash", d.Crash([]bool{true, false}), api.ErrNil)
	for _, n := range []int{math.MinInt, -1, 0, 1, 2, 3, math.MaxInt} {
		wantReadError(t, d, n, api.ErrNil)
		want(t, "write", d.Write(n, full(1)), api.ErrNil)
		want(t, "write of nil", d.Write(n, nil), api.ErrNil)
		want(t, "power", d.Power(n), api.ErrNil)
		want(t, "flip", d.Flip(n, 0), api.ErrNil)
		want(t, "flip", d.Flip(0, n), api.ErrNil)
		want(t, "lose", d.Lose(n), api.ErrNil)
		want(t, "stray", d.Stray(n, 0), api.ErrNil)
		want(t, "stray", d.Stray(0, n), api.ErrNil)
		if b, lost, e := d.Rest(n); b != nil || lost || e != api.ErrNil {
			t.Errorf("Rest(%d): %v, %v, %d", n, b, lost, e)
		}
		if b, e := d.Meant(n); b != nil || e != api.ErrNil {
			t.Errorf("Meant(%d): %v, %d", n, b, e)
		}
	}
	if d.Size() != 0 || d.Waits() != 0 || d.Up() {
		t.Errorf("then %d, %d waiting, up %v", d.Size(), d.Waits(), d.Up())
	}
}

func TestDisksThatNewDidNotReturn(t *testing.T) { // P5.1, P5.2, P5.3, P5.4, P5.5, P5.6
	wantNobody(t, nil)
	wantNobody(t, new(disk.Disk))
	refused, _ := disk.New(0)
	wantNobody(t, refused)
}

// TestCopies tries copies of disks in each state, none of which New returned: what they were copied from is as before.
func TestCopies(t *testing.T) { // P5.1
	d := written(t, 3)
	want(t, "write", d.Write(2, full(9)), api.OK)
	for _, change := range []func(){
		func() {},
		func() { kill(t, d) },
		func() { want(t, "crash", d.Crash([]bool{true}), api.OK) },
	} {
		change()
		waits, isUp := d.Waits(), d.Up()
		other := *d
		wantNobody(t, &other)
		wantWaits(t, d, waits)
		wantUp(t, d, isUp)
	}
	want(t, "start", d.Start(), api.OK)
	wantHeld(t, d, 0, varied(1))
	wantHeld(t, d, 1, varied(2))
	wantHeld(t, d, 2, full(9))
}

// model is a disk by the chapter's definitions.
type model struct {
	size       int
	dead, down bool
	limited    bool
	left       int
	pending    []pair
	rest       map[int]string
	meant      map[int]string
	lost       map[int]bool
}

// pair is a pending write of a model.
type pair struct {
	sector int
	bytes  string
}

func newModel(size int) *model {
	m := &model{size: size, rest: map[int]string{}, meant: map[int]string{}, lost: map[int]bool{}}
	for s := range size {
		m.rest[s], m.meant[s] = string(full(0)), string(full(0))
	}
	return m
}

func (m *model) has(sector int) bool { return sector >= 0 && sector < m.size }

func (m *model) up() bool { return !m.dead && !m.down }

func (m *model) carryOut(w pair) {
	m.rest[w.sector], m.meant[w.sector] = w.bytes, w.bytes
	delete(m.lost, w.sector)
}

func (m *model) powerless() bool {
	if m.limited && m.left == 0 {
		m.dead = true
		return true
	}
	m.left--
	return false
}

func (m *model) read(sector int) (string, api.Errno) {
	if !m.up() {
		return "", api.ErrDown
	}
	if !m.has(sector) {
		return "", api.ErrArg
	}
	found, e := m.rest[sector], api.OK
	if m.lost[sector] {
		found, e = "", api.ErrLost
	}
	for _, w := range m.pending {
		if w.sector == sector {
			found, e = w.bytes, api.OK
		}
	}
	return found, e
}

func (m *model) Write(sector int, b []byte) api.Errno {
	if !m.up() {
		return api.ErrDown
	}
	if !m.has(sector) || len(b) != wide {
		return api.ErrArg
	}
	if m.powerless() {
		return api.ErrDown
	}
	m.pending = append(m.pending, pair{sector, string(b)})
	return api.OK
}

func (m *model) Flush() api.Errno {
	if !m.up() || m.powerless() {
		return api.ErrDown
	}
	for len(m.pending) > 0 {
		m.carryOut(m.pending[0])
		m.pending = m.pending[1:]
	}
	return api.OK
}

func (m *model) Power(n int) api.Errno {
	if !m.up() {
		return api.ErrDown
	}
	if n < 0 {
		return api.ErrArg
	}
	m.limited, m.left = true, n
	return api.OK
}

func (m *model) Crash(keep []bool) api.Errno {
	if m.down {
		return api.ErrDown
	}
	for len(m.pending) > 0 && len(keep) > 0 {
		if keep[0] {
			m.carryOut(m.pending[0])
		}
		m.pending, keep = m.pending[1:], keep[1:]
	}
	m.pending, m.down = nil, true
	return api.OK
}

func (m *model) Start() api.Errno {
	if !m.down {
		return api.ErrArg
	}
	m.dead, m.down, m.limited = false, false, false
	return api.OK
}

func (m *model) Flip(sector, bit int) api.Errno {
	if !m.has(sector) || bit < 0 {
		return api.ErrArg
	}
	m.rest[sector] = string(turned([]byte(m.rest[sector]), bit%512))
	return api.OK
}

func (m *model) Lose(sector int) api.Errno {
	if !m.has(sector) {
		return api.ErrArg
	}
	m.lost[sector] = true
	return api.OK
}

func (m *model) Stray(from, to int) api.Errno {
	if !m.has(from) || !m.has(to) {
		return api.ErrArg
	}
	m.rest[to], m.lost[to] = m.rest[from], m.lost[from]
	return api.OK
}

// subject is what changes by steps: a disk, or a model of one.
type subject interface {
	Write(sector int, b []byte) api.Errno
	Flush() api.Errno
	Power(n int) api.Errno
	Crash(keep []bool) api.Errno
	Start() api.Errno
	Flip(sector, bit int) api.Errno
	Lose(sector int) api.Errno
	Stray(from, to int) api.Errno
}

// step is a call that changes a disk, with its arguments.
type step struct {
	call         string
	sector, more int // more: the bit, the number of calls, or the sector to which a write strays
	bytes        []byte
	keep         []bool
}

func (x step) on(d subject) api.Errno {
	switch x.call {
	case "write":
		return d.Write(x.sector, x.bytes)
	case "flush":
		return d.Flush()
	case "power":
		return d.Power(x.more)
	case "crash":
		return d.Crash(x.keep)
	case "start":
		return d.Start()
	case "flip":
		return d.Flip(x.sector, x.more)
	case "lose":
		return d.Lose(x.sector)
	}
	return d.Stray(x.sector, x.more)
}

func (x step) isFault() bool { return x.call == "flip" || x.call == "lose" || x.call == "stray" }

// pick returns one of the numbers.
func pick(r *rand.Rand, l ...int) int { return l[r.Intn(len(l))] }

// randomSector returns mostly a sector of a disk of that size.
func randomSector(r *rand.Rand, size int) int {
	if r.Intn(20) == 0 {
		return pick(r, wrongSectors(size)...)
	}
	return r.Intn(size)
}

func randomStep(r *rand.Rand, size int) step {
	calls := []string{"write", "write", "write", "write", "write", "write", "flush", "flush", "power", "crash", "start", "start", "start", "flip", "lose", "stray"}
	x := step{call: calls[r.Intn(len(calls))], sector: randomSector(r, size)}
	switch x.call {
	case "write":
		x.bytes = make([]byte, pick(r, 64, 64, 64, 64, 64, 64, 64, 64, 63, 65, 0))
		r.Read(x.bytes)
	case "power":
		x.more = pick(r, 0, 1, 2, 3, 5, 8, 20, math.MaxInt, -1, math.MinInt)
	case "crash":
		x.keep = make([]bool, r.Intn(8))
		for i := range x.keep {
			x.keep[i] = r.Intn(2) == 0
		}
	case "flip":
		x.more = pick(r, 0, 1, 7, 8, 255, 511, 512, 1000, r.Intn(512), math.MaxInt, -1, math.MinInt)
	case "stray":
		x.more = randomSector(r, size)
	}
	return x
}

// wantAsModel wants everything that a disk tells to be as the model has it.
func wantAsModel(t *testing.T, d *disk.Disk, m *model) {
	t.Helper()
	if d.Size() != m.size || d.Waits() != len(m.pending) || d.Up() != m.up() {
		t.Fatalf("%d, %d waiting, up %v; want %d, %d, %v", d.Size(), d.Waits(), d.Up(), m.size, len(m.pending), m.up())
	}
	for s := -1; s <= m.size; s++ {
		b, e := d.Read(s)
		if wanted, we := m.read(s); string(b) != wanted || e != we {
			t.Fatalf("Read(%d): %v, %d; want %v, %d", s, b, e, []byte(wanted), we)
		}
		if !m.has(s) {
			continue
		}
		wanted := m.rest[s]
		if m.lost[s] {
			wanted = ""
		}
		if b, lost, e := d.Rest(s); string(b) != wanted || lost != m.lost[s] || e != api.OK {
			t.Fatalf("Rest(%d): %v, %v, %d; want %v, %v", s, b, lost, e, []byte(wanted), m.lost[s])
		}
		if b, e := d.Meant(s); string(b) != m.meant[s] || e != api.OK {
			t.Fatalf("Meant(%d): %v, %d; want %v", s, b, e, []byte(m.meant[s]))
		}
	}
}

func TestAsDefined(t *testing.T) { // P5.2, P5.3, P5.4, P5.5, P5.6
	r := rand.New(rand.NewSource(1))
	type outcome struct {
		call string
		e    api.Errno
	}
	seen := map[outcome]int{}
	for range 400 {
		size := 1 + r.Intn(4)
		d, m := made(t, size), newModel(size)
		for range 150 {
			x := randomStep(r, size)
			given, keep := bytes.Clone(x.bytes), slices.Clone(x.keep)
			e := x.on(d)
			if !bytes.Equal(x.bytes, given) || !slices.Equal(x.keep, keep) {
				t.Fatalf("%v: an argument changed", x)
			}
			if wanted := x.on(m); e != wanted {
				t.Fatalf("%v: %d; want %d", x, e, wanted)
			}
			seen[outcome{x.call, e}]++
			wantAsModel(t, d, m)
		}
	}
	for _, x := range []outcome{
		{"write", api.OK}, {"write", api.ErrDown}, {"write", api.ErrArg},
		{"flush", api.OK}, {"flush", api.ErrDown},
		{"power", api.OK}, {"power", api.ErrDown}, {"power", api.ErrArg},
		{"crash", api.OK}, {"crash", api.ErrDown},
		{"start", api.OK}, {"start", api.ErrArg},
		{"flip", api.OK}, {"flip", api.ErrArg},
		{"lose", api.OK}, {"lose", api.ErrArg},
		{"stray", api.OK}, {"stray", api.ErrArg},
	} {
		if seen[x] < 20 {
			t.Errorf("%s, %d: tried %d times", x.call, x.e, seen[x])
		}
	}
	if len(seen) != 18 {
		t.Errorf("other outcomes: %v", slices.Collect(maps.Keys(seen)))
	}
}

// TestDurability holds sectors at rest against what was flushed last, after crashes with any choice of what is kept.
func TestDurability(t *testing.T) { // P5.7
	r := rand.New(rand.NewSource(2))
	for range 300 {
		size := 1 + r.Intn(4)
		d := made(t, size)
		flushed := slices.Repeat([][]byte{full(0)}, size)
		for range 10 {
			last := slices.Clone(flushed)
			for range r.Intn(6) {
				s, b := r.Intn(size), varied(byte(r.Intn(256)))
				want(t, "write", d.Write(s, b), api.OK)
				last[s] = b
			}
			want(t, "flush", d.Flush(), api.OK)
			flushed = last
			// What is not written again outlives each crash, whatever comes through of the others.
			other := r.Intn(size)
			for s := range size {
				if s != other {
					want(t, "write", d.Write(s, full(255)), api.OK)
				}
			}
			if r.Intn(2) == 0 {
				kill(t, d)
			}
			crash(t, d, randomStepOf(r, "crash").keep...)
			crash(t, d, true, true, true)
			wantHeld(t, d, other, flushed[other])
			for s := range size {
				flushed[s], _ = d.Read(s)
			}
		}
	}
}

// randomStepOf returns a random step of that call, of a disk of one sector.
func randomStepOf(r *rand.Rand, call string) step {
	for {
		if x := randomStep(r, 1); x.call == call {
			return x
		}
	}
}

// TestWithoutFaults wants what is at rest to be what is meant, and on a disk with faults the meant contents to be those of one that has the same calls without faults.
func TestWithoutFaults(t *testing.T) { // P5.6, P5.7
	r := rand.New(rand.NewSource(3))
	for range 200 {
		size := 1 + r.Intn(4)
		d, twin := made(t, size), made(t, size)
		for range 100 {
			x := randomStep(r, size)
			e := x.on(d)
			if !x.isFault() {
				want(t, x.call, x.on(twin), e)
			}
			for s := range size {
				b, _ := d.Meant(s)
				wantMeant(t, twin, s, b)
				wantRest(t, twin, s, b)
			}
		}
	}
}

// TestTornWrites wants each sector to hold what it held at rest, or the bytes of a pending write to it, and the one or the other by its own choice.
func TestTornWrites(t *testing.T) { // P5.8
	r := rand.New(rand.NewSource(4))
	seen := map[int]int{} // by how many of three sectors hold something new
	for range 2000 {
		d := written(t, 3)
		mays := [][][]byte{{varied(1)}, {varied(2)}, {varied(3)}}
		for range 6 {
			s, b := r.Intn(3), varied(byte(10+r.Intn(200)))
			want(t, "write", d.Write(s, b), api.OK)
			mays[s] = append(mays[s], b)
		}
		crash(t, d, randomStepOf(r, "crash").keep...)
		count := 0
		for s, may := range mays {
			b, e := d.Read(s)
			if e != api.OK || !slices.ContainsFunc(may, func(x []byte) bool { return bytes.Equal(x, b) }) {
				t.Fatalf("sector %d: %v, %d; want one of %v", s, b, e, may)
			}
			if !bytes.Equal(b, may[0]) {
				count++
			}
		}
		seen[count]++
	}
	for count := range 4 {
		if seen[count] < 10 {
			t.Errorf("%d sectors that hold something new: tried %d times", count, seen[count])
		}
	}
}

// TestIsolation wants faults at one sector to leave all others as they are read on a disk that has the same calls without those faults.
func TestIsolation(t *testing.T) { // P5.9
	r := rand.New(rand.NewSource(5))
	differ := 0
	for range 300 {
		size := 2 + r.Intn(3)
		hurt := r.Intn(size)
		d, twin := made(t, size), made(t, size)
		for range 60 {
			x := randomStep(r, size)
			if x.call == "stray" {
				x.more = hurt
			} else if x.isFault() {
				x.sector = hurt
			}
			e := x.on(d)
			if !x.isFault() {
				want(t, x.call, x.on(twin), e)
			}
			for s := range size {
				b, e := d.Read(s)
				other, oe := twin.Read(s)
				same := bytes.Equal(b, other) && e == oe
				if s != hurt && !same {
					t.Fatalf("a fault at %d: Read(%d): %v, %d; want %v, %d", hurt, s, b, e, other, oe)
				}
				if !same {
					differ++
				}
			}
		}
	}
	if differ < 1000 {
		t.Errorf("faults that were seen at their own sector: %d", differ)
	}
}
