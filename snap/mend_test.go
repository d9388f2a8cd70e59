package snap_test

import (
	"fmt"
	"slices"
	"testing"

	"sexton/api"
	"sexton/disk"
	"sexton/snap"
)

// hurts are ways of hurting the place of a chunk that can be detected, whatever it holds.
var hurts = []func(t *testing.T, d *disk.Disk, first int){
	func(t *testing.T, d *disk.Disk, first int) { want(t, "lose", d.Lose(first), api.OK) },
	func(t *testing.T, d *disk.Disk, first int) { want(t, "lose", d.Lose(first+1), api.OK) },
	func(t *testing.T, d *disk.Disk, first int) { want(t, "flip", d.Flip(first, 3), api.OK) },
	func(t *testing.T, d *disk.Disk, first int) { want(t, "flip", d.Flip(first+1, 511), api.OK) },
	func(t *testing.T, d *disk.Disk, first int) { want(t, "stray", d.Stray(first, first+1), api.OK) },
	func(t *testing.T, d *disk.Disk, first int) { want(t, "stray", d.Stray(0, first), api.OK) },
	func(t *testing.T, d *disk.Disk, first int) {
		// What the place with the same number in the other area holds.
		for behind := range 2 {
			want(t, "stray", d.Stray(124+(first-124+16)%32+behind, first+behind), api.OK)
		}
	},
}

// TestMend mends each chunk of each snapshot, hurt in each way and by each content, with the power for some calls: these are made, in their order, and no others.
func TestMend(t *testing.T) { // P13.4, P13.7
	t.Parallel()
	for n, x := range snapshots() {
		for i, c := range contents(x) {
			for k := range x.count() {
				for power := range 5 {
					// One power that suffices for each, and all others for some.
					if !c.hurt || power != 3 && (i+k+n)%6 != 0 {
						continue
					}
					wantMends(t, x, c, k, power)
					if t.Failed() {
						t.Fatalf("%v, chunk %d, %s, power %d", x, k, c.name, power)
					}
				}
			}
		}
	}
}

// wantMends wants a Mend with the power for some calls to do what P13.4 says, also after each crash.
func wantMends(t *testing.T, x kept, c content, k, power int) {
	t.Helper()
	right := chunksOf(x.b)[k]
	waits := 0
	for keep := 0; keep < 1<<waits; keep++ {
		d, twin := x.disk(t), x.disk(t)
		s := opened(t, d, x.replica, 20)
		for _, y := range []*disk.Disk{d, twin} {
			c.lay(t, y, x, k)
			want(t, "power", y.Power(power), api.OK)
		}
		wanted := x.put(t, twin, 20, k, true)
		if (wanted == api.OK) != (power >= 3) {
			t.Errorf("%d", wanted)
		}
		want(t, "Mend", s.Mend(k, right), wanted)
		wantTwins(t, "mended", d, twin)
		if wanted == api.OK {
			wantHolds(t, s, x.index, x.b)
			restart(t, d)
			wantHolds(t, s, x.index, x.b)
			wantHolds(t, opened(t, d, x.replica, 21), x.index, x.b)
			return
		}
		wantDown(t, s, x.index, x.count())
		waits = d.Waits()
		var kept []bool
		for i := range waits {
			kept = append(kept, keep>>i&1 != 0)
		}
		restart(t, d, kept...)
		restart(t, twin, kept...)
		wantTwins(t, "restarted", d, twin)
		// Nothing but this chunk is touched, and it can be mended still.
		s = opened(t, d, x.replica, 21)
		if hurt := s.Hurt(); len(hurt) > 0 {
			wantHolds(t, s, x.index, x.b, k)
			wantMend(t, s, k, right)
		}
		wantHolds(t, s, x.index, x.b)
	}
}

// TestMendBytes mends chunks with bytes of each length, hurt or not, on a disk that is up, and on one that is not.
func TestMendBytes(t *testing.T) { // P13.4
	for _, x := range snapshots() {
		for i, k := range append([]int{0, 1, 2, 3, 4, 5, 6, 7, 8, -1, x.count()}, far...) {
			for _, n := range []int{0, 1, 40, 79, 80, 81, 640} {
				for _, isHurt := range []bool{false, true} {
					// For what is far one length suffices.
					if i > 10 && n != 80*(i%2) {
						continue
					}
					wantMendOf(t, x, k, filled(n, 77), isHurt)
					if t.Failed() {
						t.Fatalf("%v, chunk %d, hurt: %v, %d bytes", x, k, isHurt, n)
					}
				}
			}
		}
	}
}

func wantMendOf(t *testing.T, x kept, k int, c []byte, isHurt bool) {
	t.Helper()
	d := x.disk(t)
	s := opened(t, d, x.replica, 4)
	for i := range x.count() {
		if isHurt {
			want(t, "lose", d.Lose(chunkAt(x.area, i)+i%2), api.OK)
		}
	}
	isRight := couldBe(x.count(), k, len(c))
	before := viewOf(d)
	if isRight && isHurt {
		wantMend(t, s, k, c)
		wantChunk(t, s, k, c)
		wantHurt(t, s, slices.DeleteFunc(subset(x.count(), 255), func(i int) bool { return i == k })...)
		want(t, "Mend again", s.Mend(k, c), api.ErrArg)
	} else {
		want(t, "Mend", s.Mend(k, c), api.ErrArg)
		wantSame(t, d, before)
	}
	down := api.ErrArg
	if isRight {
		down = api.ErrDown
	}
	kill(t, d)
	want(t, "Mend", s.Mend(k, c), down)
	stop(t, d)
	before = viewOf(d)
	want(t, "Mend", s.Mend(k, c), down)
	wantSame(t, d, before)
}

// TestMendInitial mends chunks of the initial snapshot, which has none.
func TestMendInitial(t *testing.T) { // P13.4
	d := made(t, all)
	s := opened(t, d, 0, 1)
	for _, k := range append([]int{-1, 0, 1, 7, 8}, far...) {
		for _, n := range []int{0, 1, 80, 81} {
			want(t, "Mend", s.Mend(k, make([]byte, n)), api.ErrArg)
		}
	}
	stop(t, d)
	want(t, "Mend", s.Mend(0, nil), api.ErrArg)
}

// TestMendWithOthers mends a chunk with bytes that are not its own: they are its own then.
func TestMendWithOthers(t *testing.T) { // P13.4
	x := kept{1, 8, 0, varied(170, 1)}
	d := x.disk(t)
	s := opened(t, d, 1, 9)
	want(t, "lose", d.Lose(chunkAt(0, 2)), api.OK)
	wantMend(t, s, 2, filled(33, 1))
	wantHolds(t, s, 8, slices.Concat(x.b[:160], filled(33, 1)))
	want(t, "lose", d.Lose(chunkAt(0, 1)), api.OK)
	wantMend(t, s, 1, filled(80, 2))
	wantHolds(t, opened(t, d, 1, 10), 8, slices.Concat(x.b[:80], filled(80, 2), filled(33, 1)))
}

// TestMendInstalled mends chunks of snapshots that a shelf has installed, in each area, and does not touch the other one.
func TestMendInstalled(t *testing.T) { // P13.4, P13.7
	d := made(t, all)
	s := opened(t, d, 5, 1)
	for n := range 6 {
		b := varied(640-n, n)
		wantInstall(t, s, 8*n+8, b)
		for k := range 8 {
			hurts[(n+k)%4](t, d, chunkAt(n%2, k))
		}
		wantHolds(t, s, 8*n+8, b, 0, 1, 2, 3, 4, 5, 6, 7)
		other := func() string {
			text := ""
			for sector := range all {
				if sector < chunkAt(n%2, 0) || sector >= chunkAt(n%2, 8) {
					rest, lost, _ := d.Rest(sector)
					text += fmt.Sprintln(rest, lost)
				}
			}
			return text
		}
		before := other()
		for k := 7; k >= 0; k-- {
			wantHurt(t, s, subset(k+1, 255)...)
			wantMend(t, s, k, chunksOf(b)[k])
		}
		if other() != before {
			t.Errorf("%d: something else has changed", n)
		}
		wantHolds(t, s, 8*n+8, b)
	}
}

// TestAllMended hurts each choice of the chunks of snapshots in each way, and mends them in several orders.
func TestAllMended(t *testing.T) { // P13.2, P13.4, P13.7
	t.Parallel()
	for _, x := range snapshots() {
		for bits := range 1 << x.count() {
			d := x.disk(t)
			hurt := subset(x.count(), bits)
			for i, k := range hurt {
				hurts[(i+bits)%len(hurts)](t, d, chunkAt(x.area, k))
			}
			s := opened(t, d, x.replica, 4)
			wantHolds(t, s, x.index, x.b, hurt...)
			switch bits % 3 {
			case 1:
				slices.Reverse(hurt)
			case 2:
				hurt = slices.Concat(hurt[len(hurt)/2:], hurt[:len(hurt)/2])
			}
			for i, k := range hurt {
				want(t, "whole", errorOf(s), api.ErrSnap)
				if i == 2 {
					restart(t, d)
					s = opened(t, d, x.replica, 5)
				}
				wantMend(t, s, k, chunksOf(x.b)[k])
			}
			wantHolds(t, s, x.index, x.b)
			wantHolds(t, opened(t, d, x.replica, 6), x.index, x.b)
			if t.Failed() {
				t.Fatalf("%v: %v", x, hurt)
			}
		}
	}
}

// errorOf returns the error of Bytes.
func errorOf(s *snap.Shelf) api.Errno {
	_, e := s.Bytes()
	return e
}
