package snap_test

import (
	"fmt"
	"slices"
	"testing"

	"sexton/api"
	"sexton/cell"
	"sexton/disk"
	"sexton/snap"
	"sexton/tag"
)

// install carries out what P13.3 says of a right Install of a snapshot on a disk that is up, call by call.
func (x kept) install(t *testing.T, d *disk.Disk, incarnation int) api.Errno {
	t.Helper()
	for k := range x.count() {
		if e := x.put(t, d, incarnation, k, false); e != api.OK {
			return e
		}
	}
	if e := d.Flush(); e != api.OK {
		return e
	}
	return cell.Store(d, x.replica, 2, incarnation, describing(x.index, x.area, x.count()))
}

// put writes a chunk of a snapshot, and flushes if it is to.
func (x kept) put(t *testing.T, d *disk.Disk, incarnation, k int, flushed bool) api.Errno {
	t.Helper()
	y := x.tag(k)
	y.Incarnation = incarnation
	b := sealed(t, y, slices.Concat([]byte{byte(x.count())}, chunksOf(x.b)[k]), 2)
	for behind := range 2 {
		if e := d.Write(chunkAt(x.area, k)+behind, b[behind*wide:][:wide]); e != api.OK {
			return e
		}
	}
	if flushed {
		return d.Flush()
	}
	return api.OK
}

// past is what has been done with a disk before a snapshot is installed: snapshots, one after another, and faults.
type past struct {
	name      string
	snapshots []kept
	faults    func(t *testing.T, d *disk.Disk)
}

// pasts returns what may have been done with the disk of a replica.
func pasts(replica int) []past {
	of := func(index, area, n int) kept { return kept{replica, index, area, varied(n, index)} }
	none := func(*testing.T, *disk.Disk) {}
	one := []kept{of(8, 0, 200)}
	two := append(one[:1:1], of(16, 1, 640))
	three := append(two[:2:2], of(24, 0, 0))
	lose := func(sectors ...int) func(t *testing.T, d *disk.Disk) {
		return func(t *testing.T, d *disk.Disk) {
			for _, s := range sectors {
				want(t, "lose", d.Lose(s), api.OK)
			}
		}
	}
	return []past{
		{"none", nil, none}, {"one", one, none}, {"two", two, none}, {"three", three, none},
		{"one manifest lost", two, lose(2)}, {"the other one lost", two, lose(3)}, {"a copy of none lost", nil, lose(3)},
		{"chunks lost", two, lose(124, 127, 128, 140, 145)}, {"all chunks lost", one, func(t *testing.T, d *disk.Disk) {
			for s := 124; s < all; s++ {
				lose(s)(t, d)
			}
		}},
		{"something pending", one, func(t *testing.T, d *disk.Disk) { write(t, d, 60, filled(2*wide, 4)) }},
	}
}

// disk returns a disk with that past, and what is to be told of it.
func (p past) disk(t *testing.T, replica int) (*disk.Disk, kept) {
	t.Helper()
	d := made(t, all)
	x := kept{replica: replica, area: 1} // so that the next one lies in area 0
	for _, y := range p.snapshots {
		want(t, "install", y.install(t, d, 2), api.OK)
		x = y
	}
	p.faults(t, d)
	return d, x
}

// wantTells wants a shelf to tell of a snapshot what is to be told, whatever is hurt.
func wantTells(t *testing.T, s *snap.Shelf, d *disk.Disk, x kept) {
	t.Helper()
	if x.index == 0 {
		wantHolds(t, s, 0, nil)
		return
	}
	var hurt []int
	for k := range x.count() {
		for behind := range 2 {
			if _, e := d.Read(chunkAt(x.area, k) + behind); e != api.OK && !slices.Contains(hurt, k) {
				hurt = append(hurt, k)
			}
		}
	}
	wantHolds(t, s, x.index, x.b, hurt...)
}

// TestInstall installs bytes of each length over each past, with the power for some calls: these are made, in their order, and no others.
func TestInstall(t *testing.T) { // P13.3, P13.5
	t.Parallel()
	for replica, n := range lengths {
		replica %= 7
		for _, p := range pasts(replica) {
			_, old := p.disk(t, replica)
			x := kept{replica, old.index + 1 + n, 1 - old.area, varied(n, 99)}
			calls := 2*x.count() + 5
			for power := range calls + 2 {
				d, _ := p.disk(t, replica)
				twin, _ := p.disk(t, replica)
				s := opened(t, d, replica, 7)
				want(t, "heal", cell.Heal(twin, replica, 2), api.OK)
				want(t, "power", d.Power(power), api.OK)
				want(t, "power", twin.Power(power), api.OK)
				wanted := x.install(t, twin, 7)
				if (wanted == api.OK) != (power >= calls) {
					t.Errorf("power %d of %d: %d", power, calls, wanted)
				}
				want(t, fmt.Sprint("Install with power ", power), s.Install(x.index, x.b), wanted)
				wantTwins(t, fmt.Sprint("power ", power), d, twin)
				if wanted == api.OK {
					wantTells(t, s, d, x)
					wantTells(t, opened(t, d, replica, 8), d, x)
				} else {
					// It is unchanged, and told so once the disk is up again.
					wantDown(t, s, old.index, old.count())
					restart(t, d)
					wantTells(t, s, d, old)
				}
				if t.Failed() {
					t.Fatalf("%d bytes over %s with power %d", n, p.name, power)
				}
			}
		}
	}
}

// TestForm installs a snapshot the bytes of which are written out here.
func TestForm(t *testing.T) { // P13.3
	d := made(t, all)
	s := opened(t, d, 6, 258)
	wantInstall(t, s, 8, []byte{1})
	wantInstall(t, s, 513, slices.Concat(filled(80, 9), []byte{7, 5}))
	for sector, wanted := range map[int][]byte{
		2:   {8, 0, 6, 2, 0, 2, 0, 0, 0, 0, 0, 2, 1, 0, 0, 0, 0, 1, 2, 0, 0, 0, 0, 1, 2},
		3:   {8, 0, 6, 2, 1, 2, 0, 0, 0, 0, 0, 2, 1, 0, 0, 0, 0, 1, 2, 0, 0, 0, 0, 1, 2},
		124: {2, 0, 6, 5, 0, 8, 0, 0, 0, 0, 0, 2, 1, 0, 0, 0, 0, 1, 1},
		140: slices.Concat([]byte{81, 0, 6, 5, 8, 1, 2, 0, 0, 0, 0, 2, 1, 0, 0, 0, 0, 2}, filled(46, 9)),
		141: filled(80, 9)[46:],
		142: {3, 0, 6, 5, 9, 1, 2, 0, 0, 0, 0, 2, 1, 0, 0, 0, 0, 2, 7, 5},
	} {
		b, _, _ := d.Rest(sector)
		// What is behind is zero, up to the checksum, if that stands in this sector.
		rest := b[len(wanted):]
		if !slices.Equal(b[:len(wanted)], wanted) || len(rest) > 4 && !slices.Equal(rest[:len(rest)-4], make([]byte, len(rest)-4)) {
			t.Errorf("sector %d: %v; want %v", sector, b, wanted)
		}
	}
	for s := range all {
		b, _, _ := d.Rest(s)
		used := s == 2 || s == 3 || s >= 124 && s <= 125 || s >= 140 && s <= 143
		if !used && !slices.Equal(b, make([]byte, wide)) {
			t.Errorf("sector %d: %v", s, b)
		}
	}
}

// TestWhere installs snapshots one after another, with each number of chunks, and wants the two areas to be used in turn.
func TestWhere(t *testing.T) { // P13.3
	d := made(t, 200)
	for s := range 200 {
		if s != 2 && s != 3 {
			lay(t, d, s, filled(wide, byte(s)))
		}
	}
	s := opened(t, d, 4, 1)
	for n := range 30 {
		x := kept{4, 3*n + 2, n % 2, varied([]int{640, 1, 80, 560, 0, 81, 320}[n%7], n)}
		var before [][]byte
		for sector := range 200 {
			b, _, _ := d.Rest(sector)
			before = append(before, b)
		}
		wantInstall(t, s, x.index, x.b)
		for sector := range 200 {
			b, _, _ := d.Rest(sector)
			used := sector == 2 || sector == 3 || sector >= chunkAt(x.area, 0) && sector < chunkAt(x.area, x.count())
			if slices.Equal(b, before[sector]) == used {
				t.Errorf("%d: sector %d has changed: %v", n, sector, !used)
			}
		}
		for k := range x.count() {
			y := x.tag(k)
			y.Incarnation = 1 + n/5
			f := sealed(t, y, slices.Concat([]byte{byte(x.count())}, chunksOf(x.b)[k]), 2)
			one, _, _ := d.Rest(chunkAt(x.area, k))
			two, _, _ := d.Rest(chunkAt(x.area, k) + 1)
			if !slices.Equal(slices.Concat(one, two), f) {
				t.Errorf("%d: chunk %d is not where it should be", n, k)
			}
		}
		for place := range 2 {
			f := sealed(t, tag.Tag{Replica: 4, Region: 2, Place: place, Index: n + 1, Incarnation: 1 + n/5}, describing(x.index, x.area, x.count()), 1)
			if b, _, _ := d.Rest(manifestAt(place)); !slices.Equal(b, f) {
				t.Errorf("%d: copy %d of the manifest is not as it should be", n, place)
			}
		}
		wantHolds(t, s, x.index, x.b)
		if n%5 == 4 {
			restart(t, d)
			s = opened(t, d, 4, 2+n/5)
			wantHolds(t, s, x.index, x.b)
		}
	}
}

// TestLengths installs bytes of each length.
func TestLengths(t *testing.T) { // P13.3
	d := made(t, all)
	s := opened(t, d, 0, 1)
	for n := range longest + 1 {
		b := varied(n, n)
		wantInstall(t, s, n+1, b)
		wantTold(t, s, n+1, len(chunksOf(b)))
		wantHurt(t, s)
		wantBytes(t, s, b)
		wantBytes(t, opened(t, d, 0, 2), b)
	}
	wantInstall(t, s, 1000, nil)
	wantHolds(t, s, 1000, nil)
	wantHolds(t, opened(t, d, 0, 2), 1000, nil)
	wantInstall(t, s, 1001, []byte{})
	wantHolds(t, s, 1001, nil)
	wantHolds(t, opened(t, d, 0, 2), 1001, nil)
	before := viewOf(d)
	for _, n := range []int{641, 642, 720, 1280, 1 << 16, 1<<16 + 1} {
		want(t, "Install", s.Install(1002, varied(n, 3)), api.ErrLong)
	}
	wantSame(t, d, before)
	wantHolds(t, s, 1001, nil)
}

// TestIndices installs with each index at and beyond its bounds, over snapshots of several indices.
func TestIndices(t *testing.T) { // P13.3
	for _, old := range []int{0, 1, 8, 9, 1 << 33, mostIndex - 1, mostIndex} {
		indices := append([]int{-1, 0, 1, 7, 8, 9, 16, 1<<32 + 9, old - 24, old - 8, old - 1, old, old + 1, old + 2, old + 8, mostIndex - 1, mostIndex, mostIndex + 1, mostIndex + 2, maxNumber - 8, maxNumber, maxNumber + 1}, far...)
		for _, index := range indices {
			d := made(t, all)
			s := opened(t, d, 0, 1)
			if old > 0 {
				wantInstall(t, s, old, varied(50, 1))
			}
			before := viewOf(d)
			if old < index && index <= 1<<40-24 {
				wantInstall(t, s, index, varied(100, 2))
				wantHolds(t, s, index, varied(100, 2))
				wantHolds(t, opened(t, d, 0, 2), index, varied(100, 2))
				continue
			}
			for _, n := range []int{0, 50, 640, 641, 1000} {
				want(t, fmt.Sprintf("Install of %d over %d", index, old), s.Install(index, varied(n, 2)), api.ErrArg)
			}
			wantSame(t, d, before)
			if old > 0 {
				wantHolds(t, s, old, varied(50, 1))
			} else {
				wantHolds(t, s, 0, nil)
			}
		}
	}
}

// TestInstallErrors installs what is wrong in several ways on disks in each state: the first error is told, and nothing changes.
func TestInstallErrors(t *testing.T) { // P13.3
	for _, initial := range []bool{true, false} {
		d := made(t, all)
		s := opened(t, d, 0, 1)
		index := 0
		if !initial {
			index = 8
			wantInstall(t, s, 8, varied(90, 1))
		}
		check := func(running api.Errno) {
			t.Helper()
			before := viewOf(d)
			for _, i := range []int{-1, 0, index, mostIndex + 1} {
				for _, n := range []int{0, 640, 641} {
					want(t, "Install", s.Install(i, varied(n, 2)), api.ErrArg)
				}
			}
			want(t, "Install", s.Install(16, varied(641, 2)), api.ErrLong)
			if running != api.OK {
				for _, n := range []int{0, 1, 80, 640} {
					want(t, "Install", s.Install(16, varied(n, 2)), running)
				}
			}
			wantSame(t, d, before)
			if s.Index() != index {
				t.Errorf("Index: %d", s.Index())
			}
		}
		check(api.OK)
		want(t, "power", d.Power(0), api.OK)
		check(api.OK)
		want(t, "flush", d.Flush(), api.ErrDown)
		check(api.ErrDown)
		stop(t, d)
		check(api.ErrDown)
		want(t, "start", d.Start(), api.OK)
		check(api.OK)
		wantInstall(t, s, 16, varied(640, 2))
		wantHolds(t, s, 16, varied(640, 2))
	}
}

// TestStoreFails installs while the manifest cannot be stored: its chunks are written, and the snapshot is what it was.
func TestStoreFails(t *testing.T) { // P13.3
	lose := func(d *disk.Disk) {
		want(t, "lose", d.Lose(manifestAt(0)), api.OK)
		want(t, "lose", d.Lose(manifestAt(1)), api.OK)
	}
	last := func(d *disk.Disk) {
		for place := range 2 {
			x := tag.Tag{Replica: 3, Region: 2, Place: place, Index: maxNumber, Incarnation: 1}
			lay(t, d, manifestAt(place), sealed(t, x, describing(8, 0, 2), 1))
		}
	}
	for _, row := range []struct {
		spoil  func(d *disk.Disk)
		wanted api.Errno
	}{{lose, api.ErrCell}, {last, api.ErrFull}} {
		for _, isFirst := range []bool{true, false} {
			d := made(t, all)
			s := opened(t, d, 3, 1)
			old, x := kept{3, 0, 1, nil}, kept{3, 24, 0, varied(330, 5)}
			if !isFirst {
				old, x.area = kept{3, 8, 0, varied(150, 2)}, 1
				wantInstall(t, s, old.index, old.b)
			}
			row.spoil(d)
			for range 2 {
				want(t, "Install", s.Install(x.index, x.b), row.wanted)
				wantHolds(t, s, old.index, old.b)
				if d.Waits() != 0 {
					t.Errorf("%d are pending", d.Waits())
				}
				for k := range x.count() {
					y := x.tag(k)
					y.Incarnation = 1
					f := sealed(t, y, slices.Concat([]byte{byte(x.count())}, chunksOf(x.b)[k]), 2)
					if b, _, _ := d.Rest(chunkAt(x.area, k)); !slices.Equal(b, f[:wide]) {
						t.Errorf("chunk %d is not written", k)
					}
				}
			}
			// Another snapshot is written where this one was.
			x.index, x.b = 32, varied(81, 7)
			want(t, "Install", s.Install(x.index, x.b), row.wanted)
			b, _, _ := d.Rest(chunkAt(x.area, 1))
			if !slices.Equal(b[17:19], []byte{2, x.b[80]}) {
				t.Errorf("chunk 1: %v", b)
			}
			wantHolds(t, s, old.index, old.b)
		}
	}
}

// TestManifestHurtMeanwhile hurts one copy of the manifest after an Open: an Install writes both.
func TestManifestHurtMeanwhile(t *testing.T) { // P13.3
	for place := range 2 {
		d := made(t, all)
		s := opened(t, d, 3, 1)
		wantInstall(t, s, 8, varied(10, 1))
		want(t, "lose", d.Lose(manifestAt(place)), api.OK)
		wantInstall(t, s, 16, varied(20, 2))
		wantHolds(t, s, 16, varied(20, 2))
		want(t, "lose", d.Lose(manifestAt(1-place)), api.OK)
		wantHolds(t, opened(t, d, 3, 2), 16, varied(20, 2))
	}
}

// TestInstallOverHurt installs while chunks of the present snapshot are hurt: none of the new one is.
func TestInstallOverHurt(t *testing.T) { // P13.3
	for bits := range 16 {
		d := made(t, all)
		s := opened(t, d, 3, 1)
		wantInstall(t, s, 8, varied(300, 1))
		wantInstall(t, s, 16, varied(300, 2))
		for area := range 2 {
			for _, k := range subset(4, bits) {
				want(t, "lose", d.Lose(chunkAt(area, k)+area), api.OK)
			}
		}
		wantHolds(t, s, 16, varied(300, 2), subset(4, bits)...)
		wantInstall(t, s, 24, varied(320, 3))
		wantHolds(t, s, 24, varied(320, 3))
		wantInstall(t, s, 32, varied(100, 4))
		wantHolds(t, s, 32, varied(100, 4))
		wantHolds(t, opened(t, d, 3, 2), 32, varied(100, 4))
	}
}

// TestBytesChangedBehind changes the bytes that were installed, behind the call.
func TestBytesChangedBehind(t *testing.T) { // P13.3
	d := made(t, all)
	s := opened(t, d, 0, 1)
	b := append(make([]byte, 0, 700), varied(250, 1)...)
	wantInstall(t, s, 8, b)
	if !slices.Equal(b[:cap(b)][250:], make([]byte, 450)) {
		t.Errorf("Install has changed what is behind its bytes")
	}
	clear(b[:cap(b)])
	wantHolds(t, s, 8, varied(250, 1))
	want(t, "lose", d.Lose(chunkAt(0, 1)), api.OK)
	c := append(make([]byte, 0, 100), varied(250, 1)[80:160]...)
	wantMend(t, s, 1, c)
	if !slices.Equal(c[:cap(c)][80:], make([]byte, 20)) {
		t.Errorf("Mend has changed what is behind its bytes")
	}
	clear(c)
	wantHolds(t, s, 8, varied(250, 1))
	wantHolds(t, opened(t, d, 0, 2), 8, varied(250, 1))
}
