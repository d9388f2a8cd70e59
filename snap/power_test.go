package snap_test

import (
	"fmt"
	"math/rand"
	"testing"

	"sexton/api"
	"sexton/disk"
	"sexton/snap"
)

// isNew reports whether the new snapshot is what is there after an Install with the power for some calls, and a crash.
func isNew(count, power int, keep []bool) bool {
	// The first copy of the manifest is written behind all sectors and a flush.
	return power >= 2*count+3 || power == 2*count+2 && keep[0]
}

// someKeeps returns all ways of keeping or dropping so many pending writes, or of many some.
func someKeeps(r *rand.Rand, waits int) [][]bool {
	if waits <= 6 {
		return keeps(waits)
	}
	l := [][]bool{make([]bool, waits)}
	for range 12 {
		var k []bool
		for range waits {
			k = append(k, r.Intn(2) == 0)
		}
		l = append(l, k)
	}
	return l
}

// TestPowerFails has the power fail at each call of an Install, over each past without damaged chunks, and wants what is opened after each crash to be complete.
func TestPowerFails(t *testing.T) { // P13.3, P13.5
	t.Parallel()
	r := rand.New(rand.NewSource(13))
	for _, n := range []int{0, 1, 80, 81, 160, 161, 300, 640} {
		for _, p := range pasts(2) {
			if p.name == "chunks lost" || p.name == "all chunks lost" {
				continue
			}
			_, old := p.disk(t, 2)
			x := kept{2, old.index + 8, 1 - old.area, varied(n, n)}
			for power := range 2*x.count() + 6 {
				d, _ := p.disk(t, 2)
				s := opened(t, d, 2, 3)
				want(t, "power", d.Power(power), api.OK)
				s.Install(x.index, x.b)
				for _, keep := range someKeeps(r, d.Waits()) {
					d, _ := p.disk(t, 2)
					wantAtomic(t, d, old, x, power, keep)
					if t.Failed() {
						t.Fatalf("%d bytes over %s with power %d, kept %v", n, p.name, power, keep)
					}
				}
			}
		}
	}
}

// wantAtomic installs with the power for some calls, crashes, and wants what is opened to be the old snapshot or the new one, complete.
func wantAtomic(t *testing.T, d *disk.Disk, old, x kept, power int, keep []bool) {
	t.Helper()
	s := opened(t, d, 2, 3)
	want(t, "power", d.Power(power), api.OK)
	wanted := api.ErrDown
	if power >= 2*x.count()+5 {
		wanted = api.OK
	}
	want(t, "Install", s.Install(x.index, x.b), wanted)
	restart(t, d, keep...)
	there := old
	if isNew(x.count(), power, keep) {
		there = x
	}
	s = opened(t, d, 2, 4)
	wantHolds(t, s, there.index, there.b)
	if wanted == api.OK && there.index != x.index {
		t.Errorf("what was installed is not there")
	}
	// It goes on, whatever it is.
	next := kept{2, there.index + 8, 1 - there.area, varied(200, 5)}
	wantInstall(t, s, next.index, next.b)
	restart(t, d)
	wantHolds(t, opened(t, d, 2, 5), next.index, next.b)
}

// TestOpenInterrupted has the power fail at each call of an Open after an Install that had failed: what is there then stays.
func TestOpenInterrupted(t *testing.T) { // P13.1, P13.5
	for power := range 12 {
		for again := range 3 {
			for bits := range 16 {
				keep := func(i int) bool { return bits>>i&1 != 0 }
				d := made(t, all)
				s := opened(t, d, 2, 1)
				wantInstall(t, s, 8, varied(100, 1))
				want(t, "power", d.Power(power), api.OK)
				e := s.Install(16, varied(150, 2))
				if (e == api.OK) != (power >= 9) {
					t.Errorf("Install: %d", e)
				}
				restart(t, d, keep(0), keep(1), keep(2), keep(3))
				index, b := 8, varied(100, 1)
				if isNew(2, power, []bool{keep(0)}) {
					index, b = 16, varied(150, 2)
				}
				want(t, "power", d.Power(again), api.OK)
				s, e = snap.Open(d, 2, 2)
				// The copies differ if one of them alone was written.
				heals := power == 6 && keep(0) || power == 7 || power == 8 && !keep(0)
				if (e == api.OK) != (!heals || again == 2) || e != api.OK && (e != api.ErrDown || s != nil) {
					t.Errorf("Open with power %d: %v, %d", again, s, e)
				}
				restart(t, d, keep(1))
				s = opened(t, d, 2, 3)
				wantHolds(t, s, index, b)
				wantInstall(t, s, 24, varied(300, 3))
				wantHolds(t, opened(t, d, 2, 4), 24, varied(300, 3))
				if t.Failed() {
					t.Fatalf("power %d, then %d, kept %b", power, again, bits)
				}
			}
		}
	}
}

// TestFailedInstallsLeave has a shelf go on after Installs that failed before the manifest was written, without an Open between.
func TestFailedInstallsLeave(t *testing.T) { // P13.3
	d := made(t, all)
	s := opened(t, d, 2, 1)
	index, b := 0, []byte(nil)
	for n := range 6 {
		for power := range 6 {
			want(t, "power", d.Power(power), api.OK)
			want(t, "Install", s.Install(index+9, varied(160, power)), api.ErrDown)
			restart(t, d, power%2 == 0, power%3 == 0, true)
			wantHolds(t, s, index, b)
		}
		index, b = index+1+n, varied(100*n, n)
		wantInstall(t, s, index, b)
		wantHolds(t, s, index, b)
		wantHolds(t, opened(t, d, 2, 2), index, b)
	}
}

// TestManyPowerFailures installs one snapshot after another, most of which are not completed.
func TestManyPowerFailures(t *testing.T) { // P13.5
	t.Parallel()
	r := rand.New(rand.NewSource(6))
	seen := map[string]int{}
	for range 200 {
		d := made(t, all)
		s := opened(t, d, 1, 1)
		old := kept{replica: 1}
		for n := range 30 {
			x := kept{1, old.index + 1 + r.Intn(9), 0, varied(r.Intn(641), r.Intn(256))}
			if r.Intn(4) == 0 {
				x.b = x.b[:len(x.b)/8]
			}
			want(t, "power", d.Power(r.Intn(2*x.count()+9)), api.OK)
			e := s.Install(x.index, x.b)
			if e == api.OK {
				old = x
			}
			keep := make([]bool, d.Waits())
			for i := range keep {
				keep[i] = r.Intn(2) == 0
			}
			restart(t, d, keep...)
			// An Open whose power fails changes nothing either.
			want(t, "power", d.Power(r.Intn(3)), api.OK)
			snap.Open(d, 1, n+2)
			restart(t, d, r.Intn(2) == 0)
			s = opened(t, d, 1, n+2)
			if s.Index() == x.index && x.index != old.index {
				old = x
				seen["new, though not told"]++
			} else {
				seen[fmt.Sprint("installed: ", e == api.OK)]++
			}
			wantHolds(t, s, old.index, old.b)
			if t.Failed() {
				t.FailNow()
			}
		}
	}
	for _, name := range []string{"new, though not told", "installed: true", "installed: false"} {
		if seen[name] < 300 {
			t.Errorf("%v", seen)
		}
	}
}
