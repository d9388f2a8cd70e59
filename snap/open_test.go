package snap_test

import (
	"fmt"
	"slices"
	"testing"

	"sexton/api"
	"sexton/cell"
	"sexton/disk"
	"sexton/snap"
	"sexton/tag"
)

// replicas and incarnations hold numbers, and whether they are right.
var (
	replicas     = map[int]bool{-1: false, 0: true, 1: true, 5: true, 6: true, 7: false, 8: false, 256: false, 1<<32 + 1: false}
	incarnations = map[int]bool{-1: false, 0: false, 1: true, 2: true, 1 << 33: true, maxNumber - 1: true, maxNumber: true, maxNumber + 1: false}
)

// numbers returns the numbers of a map in ascending order, and those that are far from all of them.
func numbers(m map[int]bool) []int {
	l := slices.Clone(far)
	for n := range m {
		l = append(l, n)
	}
	slices.Sort(l)
	return l
}

// TestOpen opens shelves with each number beside the other one, on a disk that holds a snapshot of each replica in turn, and on one that is new.
func TestOpen(t *testing.T) { // P13.1
	for owner := -1; owner < 7; owner++ {
		d, right := made(t, all), 0
		if owner >= 0 {
			wantInstall(t, opened(t, d, owner, 3), 16, varied(200, owner))
		}
		before := viewOf(d)
		for _, replica := range numbers(replicas) {
			for _, incarnation := range numbers(incarnations) {
				switch {
				case !replicas[replica] || !incarnations[incarnation]:
					wantNotOpened(t, d, replica, incarnation, api.ErrArg)
				case owner < 0:
					right++
					wantHolds(t, opened(t, d, replica, incarnation), 0, nil)
				case owner == replica:
					right++
					wantHolds(t, opened(t, d, replica, incarnation), 16, varied(200, owner))
				default:
					// Both copies are of another replica.
					wantNotOpened(t, d, replica, incarnation, api.ErrCell)
				}
			}
		}
		if owner < 0 && right != 4*5 || replicas[owner] && right != 5 {
			t.Errorf("%d are right", right)
		}
		wantSame(t, d, before)
	}
}

// TestOpenDisks opens shelves on disks of several sizes, on one that is dead, down, or none.
func TestOpenDisks(t *testing.T) { // P13.1
	wrong := [][2]int{{7, 1}, {-1, 1}, {0, 0}, {0, -1}, {0, maxNumber + 1}, {7, 0}}
	for sectors, wanted := range map[int]api.Errno{1: api.ErrArg, 3: api.ErrArg, 64: api.ErrArg, 155: api.ErrArg, 156: api.OK, 157: api.OK, 1024: api.OK} {
		d := made(t, sectors)
		open := func(running api.Errno) {
			t.Helper()
			for replica := range 7 {
				if s, e := snap.Open(d, replica, 1); (s != nil) != (e == api.OK) || wanted == api.OK && e != running || wanted != api.OK && e != wanted {
					t.Errorf("Open with %d sectors, up: %v: %v, %d", sectors, d.Up(), s, e)
				}
			}
			for _, x := range wrong {
				wantNotOpened(t, d, x[0], x[1], api.ErrArg)
			}
		}
		open(api.OK)
		want(t, "power", d.Power(0), api.OK)
		open(api.OK) // that there is no power left is told by a write alone
		want(t, "flush", d.Flush(), api.ErrDown)
		open(api.ErrDown)
		stop(t, d)
		open(api.ErrDown)
		want(t, "start", d.Start(), api.OK)
		open(api.OK)
	}
	copied := *made(t, all)
	for _, d := range []*disk.Disk{nil, {}, &copied} {
		for _, x := range append(wrong, [2]int{0, 1}, [2]int{6, maxNumber}) {
			wantNotOpened(t, d, x[0], x[1], api.ErrNil)
		}
	}
}

// wantManifest stores a body as the manifest, and wants Open to return what it describes, or ErrSnap.
func wantManifest(t *testing.T, body []byte, isRight bool, index, count int) {
	t.Helper()
	d := made(t, all)
	want(t, "store", cell.Store(d, 4, 2, 1, body), api.OK)
	before := viewOf(d)
	if isRight {
		s := opened(t, d, 4, 2)
		wantTold(t, s, index, count)
		wantHurt(t, s, subset(count, 255)...)
	} else {
		wantNotOpened(t, d, 4, 2, api.ErrSnap)
	}
	wantSame(t, d, before)
	if t.Failed() {
		t.Fatalf("%v", body)
	}
}

// TestManifests opens shelves by manifests of each number at and beyond its bounds.
func TestManifests(t *testing.T) { // P13.1
	for index, isIndex := range map[int]bool{0: false, 1: true, 2: true, 8: true, 258: true, 1 << 33: true, mostIndex - 1: true, mostIndex: true, mostIndex + 1: false, maxNumber - 8: false, maxNumber: false, maxNumber + 1: false, 1<<48 - 1: false} {
		for _, area := range []int{0, 1, 2, 3, 8, 128, 254, 255} {
			for _, count := range []int{0, 1, 2, 7, 8, 9, 16, 128, 255} {
				isRight := isIndex && (area == 0 || area == 1) && count >= 1 && count <= 8
				wantManifest(t, describing(index, area, count), isRight, index, count)
			}
		}
	}
	for n := range 256 {
		wantManifest(t, describing(8, n, 3), n < 2, 8, 3)
		wantManifest(t, describing(9, 1, n), n >= 1 && n <= 8, 9, n)
	}
}

// TestManifestLengths opens shelves by manifests of other lengths than theirs.
func TestManifestLengths(t *testing.T) { // P13.1
	form := describing(257, 1, 1)
	for n := range 44 {
		wantManifest(t, slices.Concat(form, form, form, form, form, form)[:n], n == 8, 257, 1)
		wantManifest(t, make([]byte, n), false, 0, 0)
		wantManifest(t, filled(n, 1), false, 0, 0)
		for k := range min(n, 8) {
			// Bytes that end within the form, or lack one of it.
			wantManifest(t, form[:k], false, 0, 0)
			wantManifest(t, slices.Delete(slices.Clone(form), k, k+1), false, 0, 0)
		}
	}
}

// TestManifestForm opens a shelf by a manifest whose bytes are written out here.
func TestManifestForm(t *testing.T) { // P13.1
	wantManifest(t, []byte{2, 1, 0, 0, 0, 0, 1, 7}, true, 258, 7)
	wantManifest(t, []byte{0xe8, 0xff, 0xff, 0xff, 0xff, 0, 0, 8}, true, mostIndex, 8)
	wantManifest(t, []byte{0xe9, 0xff, 0xff, 0xff, 0xff, 0, 0, 8}, false, 0, 0)
	wantManifest(t, []byte{0, 0, 0, 0, 0, 0, 1, 1}, false, 0, 0)
}

// entry is something that a place of the manifest may hold.
type entry struct {
	name string
	lay  func(t *testing.T, d *disk.Disk, place int)
}

// copyOf returns a copy of a manifest, the tag of which is changed.
func copyOf(name string, version int, body []byte, change func(x *tag.Tag)) entry {
	return entry{name, func(t *testing.T, d *disk.Disk, place int) {
		x := tag.Tag{Replica: 2, Region: 2, Place: place, Index: version, Incarnation: 5}
		change(&x)
		lay(t, d, manifestAt(place), sealed(t, x, body, 1))
	}}
}

func same(*tag.Tag) {}

// entries returns what a place of the manifest may hold.
func entries() []entry {
	right, other, wrong := describing(8, 0, 2), describing(16, 1, 3), describing(16, 2, 3)
	return []entry{
		{"never written", func(*testing.T, *disk.Disk, int) {}},
		{"lost", func(t *testing.T, d *disk.Disk, place int) { want(t, "lose", d.Lose(manifestAt(place)), api.OK) }},
		{"flipped", func(t *testing.T, d *disk.Disk, place int) { want(t, "flip", d.Flip(manifestAt(place), 99), api.OK) }},
		{"junk", func(t *testing.T, d *disk.Disk, place int) { lay(t, d, manifestAt(place), filled(wide, 3)) }},
		{"pending", func(t *testing.T, d *disk.Disk, place int) {
			write(t, d, manifestAt(place), sealed(t, tag.Tag{Replica: 2, Region: 2, Place: place, Index: 9, Incarnation: 1}, describing(24, 0, 1), 1))
		}},
		copyOf("version 1", 1, right, same), copyOf("version 1, too", 1, other, same), copyOf("version 2", 2, other, same), copyOf("version 2, of a lesser index", 2, describing(1, 1, 1), same),
		copyOf("version 0", 0, right, same), copyOf("version 0, no body", 0, nil, same), copyOf("version 0, wrong", 0, wrong, same),
		copyOf("version 1, wrong", 1, wrong, same), copyOf("version 3, wrong", 3, wrong, same), copyOf("version 3, no body", 3, nil, same),
		copyOf("the greatest version", maxNumber, right, same), copyOf("the greatest version, wrong", maxNumber, wrong, same),
		copyOf("another incarnation", 1, right, func(x *tag.Tag) { x.Incarnation = maxNumber }),
		copyOf("another replica", 7, right, func(x *tag.Tag) { x.Replica = 3 }),
		copyOf("the metadata", 7, right, func(x *tag.Tag) { x.Region = 1 }),
		copyOf("the other place", 7, right, func(x *tag.Tag) { x.Place ^= 1 }),
	}
}

// openedAs carries out what P13.1 says of Open, with right arguments.
func openedAs(d *disk.Disk) (index, count int, e api.Errno) {
	version, body, e := cell.Load(d, 2, 2)
	if e != api.OK {
		return 0, 0, e
	}
	if version > 0 {
		isRight := false
		for area := range 2 {
			for n := 1; n <= 8; n++ {
				for _, i := range []int{1, 8, 16, 24} {
					if slices.Equal(body, describing(i, area, n)) {
						index, count, isRight = i, n, true
					}
				}
			}
		}
		if !isRight {
			return 0, 0, api.ErrSnap
		}
	}
	if e := cell.Heal(d, 2, 2); e != api.OK {
		return 0, 0, e
	}
	return index, count, api.OK
}

// TestOpenOver opens shelves over each content of the manifest's places beside each other one, with each power.
func TestOpenOver(t *testing.T) { // P13.1, P13.6
	errors := map[api.Errno]int{}
	for _, a := range entries() {
		for _, b := range entries() {
			for power := range 4 {
				d, twin := made(t, all), made(t, all)
				for _, x := range []*disk.Disk{d, twin} {
					// What is pending is laid last, so that nothing flushes it.
					for place, y := range []entry{a, b} {
						if y.name != "pending" {
							y.lay(t, x, place)
						}
					}
					for place, y := range []entry{a, b} {
						if y.name == "pending" {
							y.lay(t, x, place)
						}
					}
					want(t, "power", x.Power(power), api.OK)
				}
				index, count, wanted := openedAs(twin)
				errors[wanted]++
				s, e := snap.Open(d, 2, 7)
				if e != wanted || (s != nil) != (e == api.OK) {
					t.Errorf("Open: %v, %d; want %d", s, e, wanted)
				}
				wantTold(t, s, index, count)
				wantTwins(t, fmt.Sprint("power ", power), d, twin)
				restart(t, d, true)
				restart(t, twin, true)
				wantTwins(t, "restarted", d, twin)
				if t.Failed() {
					t.Fatalf("%s; %s; power %d", a.name, b.name, power)
				}
			}
		}
	}
	for _, e := range []api.Errno{api.OK, api.ErrDown, api.ErrCell, api.ErrSnap} {
		if errors[e] < 100 {
			t.Errorf("%v", errors)
		}
	}
}

// TestOneCopy hurts one copy of the manifest, or both, of one snapshot after another.
func TestOneCopy(t *testing.T) { // P13.1, P13.6
	hurts := []func(d *disk.Disk, sector int) api.Errno{
		func(d *disk.Disk, sector int) api.Errno { return d.Lose(sector) },
		func(d *disk.Disk, sector int) api.Errno { return d.Flip(sector, 180) },
		func(d *disk.Disk, sector int) api.Errno { return d.Flip(sector, 511) },
		func(d *disk.Disk, sector int) api.Errno { return d.Stray(5-sector, sector) },
		func(d *disk.Disk, sector int) api.Errno { return d.Stray(chunkAt(0, 0), sector) },
	}
	for n := range 4 {
		for way, hurt := range hurts {
			d := made(t, all)
			s := opened(t, d, 6, 1)
			for i := range n {
				wantInstall(t, s, 8*i+8, varied(100*i+30, i))
			}
			var b []byte
			if n > 0 {
				b = varied(100*n-70, n-1)
			}
			for place := range 2 {
				if n == 0 && way > 2 {
					continue // blank bytes that go astray change nothing
				}
				want(t, "hurt", hurt(d, manifestAt(place)), api.OK)
				s = opened(t, d, 6, 2+n)
				wantHolds(t, s, 8*n, b)
				version, _, _ := cell.Load(d, 6, 2)
				if version != n {
					t.Errorf("version %d; want %d", version, n)
				}
				if n == 0 {
					// Nothing is loaded, so nothing is healed.
					lay(t, d, manifestAt(place), make([]byte, wide))
				}
			}
			for place := range 2 {
				want(t, "hurt", d.Flip(manifestAt(place), 300), api.OK)
			}
			before := viewOf(d)
			wantNotOpened(t, d, 6, 9, api.ErrCell)
			wantSame(t, d, before)
			// The shelf that was opened before holds its snapshot still.
			wantHolds(t, s, 8*n, b)
		}
	}
}
