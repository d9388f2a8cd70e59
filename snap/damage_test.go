package snap_test

import (
	"bytes"
	"math/rand"
	"slices"
	"testing"

	"sexton/api"
	"sexton/disk"
	"sexton/ghost"
	"sexton/snap"
)

// run is a shelf that is used at random.
type run struct {
	d           *disk.Disk
	s           *snap.Shelf
	incarnation int
	// old is what was installed last, or was there after an Open; tried is what was not completed since, or the same.
	old, tried kept
	seen       map[string]int
}

// open opens the shelf again, or returns false if both copies of the manifest are bad.
func (x *run) open(t *testing.T) bool {
	t.Helper()
	x.incarnation++
	s, e := snap.Open(x.d, 4, x.incarnation)
	if e == api.ErrCell {
		if s != nil || !x.isBad(t, 0) || !x.isBad(t, 1) {
			t.Errorf("Open: %v, %d", s, e)
		}
		x.seen["halted"]++
		return false
	}
	if s == nil || e != api.OK {
		t.Fatalf("Open: %v, %d", s, e)
	}
	x.s = s
	if s.Index() == x.tried.index {
		x.old = x.tried
	}
	x.tried = x.old
	return true
}

// isBad reports whether a copy of the manifest is bad.
func (x *run) isBad(t *testing.T, place int) bool {
	t.Helper()
	hurt, seen, e := ghost.Place(x.d, 4, 2, place)
	want(t, "Place", e, api.OK)
	return hurt && seen
}

// wantIntegrity wants the shelf to hold what was installed, or to tell which chunks are hurt.
func (x *run) wantIntegrity(t *testing.T) {
	t.Helper()
	wantTold(t, x.s, x.old.index, x.old.count())
	hurt := x.s.Hurt()
	for k := range x.old.count() {
		place := 8*x.old.area + k
		isHurt, _, e := ghost.Place(x.d, 4, 5, place)
		want(t, "Place", e, api.OK)
		if slices.Contains(hurt, k) {
			wantNoChunk(t, x.s, k, api.ErrSnap)
			x.seen["hurt"]++
		} else {
			wantChunk(t, x.s, k, chunksOf(x.old.b)[k])
		}
		// What was hurt once may have been hurt by what was not flushed, too; but what is hurt now is told.
		if isHurt && !slices.Contains(hurt, k) {
			t.Errorf("chunk %d is hurt", k)
		}
	}
	if len(hurt) > 0 {
		wantNoBytes(t, x.s, api.ErrSnap)
		return
	}
	wantBytes(t, x.s, x.old.b)
	x.seen["whole"]++
}

// step does something at random, and returns false if the shelf can't be opened any more.
func (x *run) step(t *testing.T, r *rand.Rand) bool {
	t.Helper()
	switch n := r.Intn(20); {
	case n < 4:
		x.install(t, r)
	case n < 9:
		x.mend(t, r)
	case n < 12:
		// A choice of sectors that matter.
		x.hurt(t, r, chunkAt(x.old.area, r.Intn(x.old.count()+1)%8)+r.Intn(2))
	case n < 14:
		for range 1 + r.Intn(2) {
			x.hurt(t, r, manifestAt(r.Intn(2)))
		}
	case n < 15:
		x.hurt(t, r, r.Intn(all))
	}
	if !x.d.Up() || r.Intn(8) == 0 {
		keep := make([]bool, x.d.Waits())
		for i := range keep {
			keep[i] = r.Intn(2) == 0
		}
		restart(t, x.d, keep...)
		return x.open(t)
	}
	return true
}

// install installs a snapshot, perhaps with too little power.
func (x *run) install(t *testing.T, r *rand.Rand) {
	t.Helper()
	next := kept{4, x.old.index + 1 + r.Intn(9), 1 - x.old.area, varied(r.Intn(641), r.Intn(256))}
	if x.old.index == 0 {
		next.area = 0
	}
	calls := 2*next.count() + 5
	want(t, "power", x.d.Power(r.Intn(2*calls)), api.OK)
	e := x.s.Install(next.index, next.b)
	if e == api.OK {
		want(t, "power", x.d.Power(1000), api.OK)
		x.old, x.tried = next, next
		x.seen["installed"]++
		return
	}
	if e == api.ErrDown {
		x.tried = next
	} else if e != api.ErrCell || !x.isBad(t, 0) || !x.isBad(t, 1) {
		t.Errorf("Install: %d", e)
	}
	if x.d.Up() {
		want(t, "power", x.d.Power(1000), api.OK)
	}
}

// mend mends a chunk that is hurt, perhaps with too little power.
func (x *run) mend(t *testing.T, r *rand.Rand) {
	t.Helper()
	hurt := x.s.Hurt()
	if len(hurt) == 0 {
		return
	}
	k := hurt[r.Intn(len(hurt))]
	want(t, "power", x.d.Power(r.Intn(12)), api.OK)
	if e := x.s.Mend(k, chunksOf(x.old.b)[k]); e == api.OK {
		want(t, "power", x.d.Power(1000), api.OK)
		wantChunk(t, x.s, k, chunksOf(x.old.b)[k])
		x.seen["mended"]++
	} else if e != api.ErrDown || x.d.Up() {
		t.Errorf("Mend of %d: %d", k, e)
	}
}

// hurt hurts a sector in a way that may not be detectable.
func (x *run) hurt(t *testing.T, r *rand.Rand, sector int) {
	t.Helper()
	switch r.Intn(4) {
	case 0:
		want(t, "lose", x.d.Lose(sector), api.OK)
	case 1:
		want(t, "stray", x.d.Stray(r.Intn(all), sector), api.OK)
	case 2:
		// From where it is likely to matter.
		want(t, "stray", x.d.Stray(chunkAt(0, 0)+r.Intn(32), sector), api.OK)
	default:
		want(t, "flip", x.d.Flip(sector, r.Intn(512)), api.OK)
	}
}

// TestIntegrity installs, mends, fails, crashes and hurts at random, as long as all that is hurt can be detected.
func TestIntegrity(t *testing.T) { // P13.2, P13.5, P13.6, P13.7
	t.Parallel()
	r := rand.New(rand.NewSource(7))
	seen := map[string]int{}
	for range 800 {
		x := &run{d: made(t, all), old: kept{replica: 4}, tried: kept{replica: 4}, seen: seen}
		x.open(t)
		for range 40 {
			if !x.step(t, r) {
				break
			}
			// What can't be detected now may be the cause of what is told later.
			if ok, _ := ghost.Seen(x.d, 4); !ok {
				break
			}
			x.wantIntegrity(t)
			if t.Failed() {
				t.FailNow()
			}
		}
		if ok, _ := ghost.Seen(x.d, 4); ok && x.d.Up() && x.old.index > 0 {
			x.wantComplete(t)
		}
	}
	for _, name := range []string{"halted", "hurt", "whole", "installed", "mended"} {
		if seen[name] < 50 {
			t.Errorf("%v", seen)
		}
	}
}

// wantComplete mends all that is hurt, and wants the shelf to be complete then.
func (x *run) wantComplete(t *testing.T) {
	t.Helper()
	for _, k := range x.s.Hurt() {
		wantMend(t, x.s, k, chunksOf(x.old.b)[k])
	}
	wantHolds(t, x.s, x.old.index, x.old.b)
}

// TestStrays lets what lies in a sector go to each other one.
func TestStrays(t *testing.T) { // P13.2, P13.6
	old, new := varied(300, 1), varied(310, 2)
	for _, from := range []int{0, 2, 3, 4, 28, 100, 124, 125, 126, 127, 139, 140, 141, 142, 143, 146, 147, 148, 155} {
		for to := range all {
			d := made(t, all)
			s := opened(t, d, 3, 1)
			wantInstall(t, s, 8, old)
			wantInstall(t, s, 16, new)
			want(t, "stray", d.Stray(from, to), api.OK)
			var hurt []int
			if k := (to - chunkAt(1, 0)) / 2; to != from && to >= chunkAt(1, 0) && k < 4 {
				hurt = []int{k}
			}
			wantHolds(t, s, 16, new, hurt...)
			wantHolds(t, opened(t, d, 3, 2), 16, new, hurt...)
			if t.Failed() {
				t.Fatalf("from %d to %d", from, to)
			}
		}
	}
}

// TestPlacesAstray lets the frame of a chunk go to each other place of the chunks.
func TestPlacesAstray(t *testing.T) { // P13.2, P13.6
	old, new := varied(640, 1), varied(640, 2)
	for from := range 16 {
		for to := range 16 {
			d := made(t, all)
			s := opened(t, d, 3, 1)
			wantInstall(t, s, 8, old)
			wantInstall(t, s, 16, new)
			for behind := range 2 {
				want(t, "stray", d.Stray(124+2*from+behind, 124+2*to+behind), api.OK)
			}
			if to == from || to < 8 {
				wantHolds(t, s, 16, new)
				continue
			}
			wantHolds(t, s, 16, new, to-8)
			wantMend(t, s, to-8, chunksOf(new)[to-8])
			wantHolds(t, s, 16, new)
		}
	}
}

// TestOlderChunks leaves chunks of an older snapshot where those of the newest should be.
func TestOlderChunks(t *testing.T) { // P13.2, P13.6
	d := made(t, all)
	s := opened(t, d, 3, 1)
	wantInstall(t, s, 8, varied(640, 1))
	wantInstall(t, s, 16, varied(640, 2))
	var before [][]byte
	for sector := range 32 {
		b, _, _ := d.Rest(124 + sector)
		before = append(before, b)
	}
	wantInstall(t, s, 24, varied(640, 3))
	for bits := range 256 {
		// As if a write had gone elsewhere, or nowhere.
		for _, k := range subset(8, bits) {
			lay(t, d, chunkAt(0, k), bytes.Join(before[2*k:2*k+2], nil))
		}
		wantHolds(t, s, 24, varied(640, 3), subset(8, bits)...)
		wantHolds(t, opened(t, d, 3, 2), 24, varied(640, 3), subset(8, bits)...)
		for _, k := range subset(8, bits) {
			wantMend(t, s, k, chunksOf(varied(640, 3))[k])
		}
	}
}

// TestHalted loses both copies of the manifest: the shelf is not opened, until they are stored again.
func TestHalted(t *testing.T) { // P13.1, P13.6
	for n := 1; n < 4; n++ {
		d := made(t, all)
		s := opened(t, d, 3, 1)
		for i := range n {
			wantInstall(t, s, 8*i+8, varied(90, i))
		}
		first := 2 + n%2
		want(t, "lose", d.Lose(first), api.OK)
		restart(t, d)
		wantHolds(t, opened(t, d, 3, 2), 8*n, varied(90, n-1))
		want(t, "lose", d.Lose(5-first), api.OK)
		want(t, "flip", d.Flip(first, 40), api.OK)
		restart(t, d)
		wantNotOpened(t, d, 3, 3, api.ErrCell)
		want(t, "power", d.Power(0), api.OK)
		wantNotOpened(t, d, 3, 3, api.ErrCell)
		stop(t, d)
		wantNotOpened(t, d, 3, 3, api.ErrDown)
	}
}
