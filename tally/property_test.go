package tally_test

import (
	"fmt"
	"math/rand"
	"slices"
	"testing"

	"sexton/api"
	"sexton/tally"
)

// noted returns a tally for n replicas, with these notes, in this order.
func noted(t *testing.T, n int, l []note) *tally.Tally {
	t.Helper()
	x := made(t, n)
	for _, one := range l {
		wantNote(t, x, one, api.OK)
	}
	return x
}

// isSame reports whether two tallies tell the same of the slots from 0 to most.
func isSame(x, y *tally.Tally, most int) bool {
	for i := range most + 1 {
		if x.Count(i) != y.Count(i) || x.Upto(i) != y.Upto(i) {
			return false
		}
	}
	return true
}

// wantExact wants each slot behind from, up to Upto, to have a majority, and the next one not: by what Count tells.
func wantExact(t *testing.T, at string, x *tally.Tally, n, from int) {
	t.Helper()
	upto := x.Upto(from)
	if upto < from {
		t.Errorf("%s: Upto(%d) is %d", at, from, upto)
	}
	for i := from + 1; i <= upto; i++ {
		if 2*x.Count(i) <= n {
			t.Errorf("%s: Upto(%d) is %d, though only %d of %d have accepted in %d", at, from, upto, x.Count(i), n, i)
		}
	}
	if 2*x.Count(upto+1) > n {
		t.Errorf("%s: Upto(%d) is %d, though %d of %d have accepted in the next one", at, from, upto, x.Count(upto+1), n)
	}
}

// TestEachOfThree tries all that three replicas can have accepted in four slots, and each Drop of it.
func TestEachOfThree(t *testing.T) { // P18.3, P18.4, P18.5, P18.6
	for bits := range 1 << 12 {
		var l []note
		for k := range 12 {
			if bits>>k&1 == 1 {
				l = append(l, note{1 + k/3, k % 3})
			}
		}
		for dropped := range 6 {
			x, m := noted(t, 3, l), newModel(3)
			for _, one := range l {
				m.note(one)
			}
			x.Drop(dropped)
			m.drop(dropped)
			at := fmt.Sprint(l, ", dropped ", dropped)
			for i := range 6 {
				if x.Count(i) != m.count(i) || x.Upto(i) != m.upto(i) {
					t.Errorf("%s: %d: %d, %d instead of %d, %d", at, i, x.Count(i), x.Upto(i), m.count(i), m.upto(i))
				}
				wantExact(t, at, x, 3, i)
			}
		}
	}
}

// TestEachSet notes each set of replicas in each of two slots.
func TestEachSet(t *testing.T) { // P18.3, P18.4, P18.6
	for _, n := range sizes {
		for bits := range 1 << (2 * n) {
			x, m := made(t, n), newModel(n)
			for k := range 2 * n {
				if bits>>k&1 == 1 {
					noteBoth(t, x, m, note{5 + k/n, k % n})
				}
			}
			for i := 4; i <= 7; i++ {
				if x.Count(i) != m.count(i) || x.Upto(i) != m.upto(i) {
					t.Errorf("of %d, %b: %d: %d, %d instead of %d, %d", n, bits, i, x.Count(i), x.Upto(i), m.count(i), m.upto(i))
				}
			}
		}
	}
}

// orders calls f with each order of the list.
func orders(l []note, f func([]note)) {
	var from func(k int)
	from = func(k int) {
		if k == len(l) {
			f(l)
		}
		for i := k; i < len(l); i++ {
			l[k], l[i] = l[i], l[k]
			from(k + 1)
			l[k], l[i] = l[i], l[k]
		}
	}
	from(0)
}

// TestEachOrder notes few things in each order, some of them twice.
func TestEachOrder(t *testing.T) { // P18.7
	for _, l := range [][]note{
		{{1, 0}, {1, 1}, {2, 0}, {2, 1}, {3, 2}, {3, 0}},
		{{1, 0}, {1, 0}, {1, 2}, {2, 1}, {2, 1}, {2, 2}},
		{{3, 0}, {2, 1}, {1, 2}, {3, 1}, {2, 2}, {4, 0}, {1, 0}},
	} {
		first := noted(t, 3, l)
		orders(l, func(l []note) {
			if !isSame(first, noted(t, 3, l), 6) {
				t.Errorf("%v", l)
			}
		})
	}
}

// someNotes returns so many random notes for n replicas, in the slots from 1 to most.
func someNotes(r *rand.Rand, n, many, most int) []note {
	var l []note
	for range many {
		l = append(l, note{1 + r.Intn(most), r.Intn(n)})
	}
	return l
}

// TestAnyOrder notes many things in random orders, and each a random number of times.
func TestAnyOrder(t *testing.T) { // P18.7
	r := rand.New(rand.NewSource(1807))
	for round := range 300 {
		n := sizes[round%3]
		l := someNotes(r, n, 1+r.Intn(300), 1+r.Intn(room))
		first := noted(t, n, l)
		for range 4 {
			again := slices.Clone(l)
			for range r.Intn(100) {
				again = append(again, l[r.Intn(len(l))])
			}
			r.Shuffle(len(again), func(i, k int) { again[i], again[k] = again[k], again[i] })
			if !isSame(first, noted(t, n, again), room+1) {
				t.Errorf("of %d: %v, then %v", n, l, again)
			}
		}
	}
}

// TestUptoGrows wants Upto never to decrease when more is noted, from wherever it is asked.
func TestUptoGrows(t *testing.T) { // P18.6, P18.7
	r := rand.New(rand.NewSource(1871))
	for round := range 60 {
		n := sizes[round%3]
		most := 1 + r.Intn(room)
		x := made(t, n)
		before := make([]int, most+2)
		for i := range before {
			before[i] = i
		}
		for _, one := range someNotes(r, n, 4*most*n, most) {
			wantNote(t, x, one, api.OK)
			for from := range before {
				upto := x.Upto(from)
				if upto < before[from] {
					t.Errorf("of %d: by %v Upto(%d) went from %d to %d", n, one, from, before[from], upto)
				}
				before[from] = upto
			}
		}
		for from := range before {
			wantExact(t, fmt.Sprint("of ", n, ", round ", round), x, n, from)
		}
	}
}

// TestRandom makes random calls, right and wrong ones, with room and without, against the model.
func TestRandom(t *testing.T) { // P18.2, P18.3, P18.4, P18.5, P18.6
	r := rand.New(rand.NewSource(18))
	for round := range 150 {
		n := sizes[round%3]
		x, m := made(t, n), newModel(n)
		base := []int{0, 1000, last - 90}[r.Intn(3)]
		spread := 8 + r.Intn(82)
		for step := range 600 {
			index := base + r.Intn(spread+2)
			switch r.Intn(60) {
			case 0:
				index = far[r.Intn(len(far))]
			case 1:
				index = base + r.Intn(spread)
				x.Drop(index)
				m.drop(index)
			}
			noteBoth(t, x, m, note{index, r.Intn(n+2) - 1})
			if step%50 == 0 {
				wantHeld(t, fmt.Sprint("of ", n, ", round ", round, ", step ", step), x, m)
			}
		}
	}
}

// TestAsLeader does what a leader does: it notes what is accepted beyond its commit index, asks up to where all is chosen, and drops up to there.
func TestAsLeader(t *testing.T) { // P18.2, P18.4, P18.5
	r := rand.New(rand.NewSource(27))
	for _, n := range sizes {
		x := made(t, n)
		accepted := map[note]bool{}
		commit := 8
		for commit < 500 {
			one := note{commit + 1 + r.Intn(24), r.Intn(n)}
			accepted[one] = true
			wantNote(t, x, one, api.OK)
			upto := x.Upto(commit)
			for i := commit + 1; i <= upto+1; i++ {
				many := 0
				for replica := range n {
					if accepted[note{i, replica}] {
						many++
					}
				}
				if 2*many > n != (i <= upto) {
					t.Fatalf("of %d: from %d up to %d, but %d have accepted in %d", n, commit, upto, many, i)
				}
			}
			commit = upto
			x.Drop(commit)
		}
	}
}
