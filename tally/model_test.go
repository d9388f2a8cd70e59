package tally_test

import (
	"fmt"
	"math"
	"testing"

	"sexton/api"
	"sexton/tally"
)

// last is the greatest index of a slot, and room how many slots a tally holds at most: as numbers, not as the program has them.
const (
	last = 1099511627776
	room = 64
)

// far are the numbers that are far from all that is noted.
var far = []int{math.MinInt, math.MinInt + 1, math.MinInt32, -last - 1, -last, last - 1, last, last + 1, 2 * last, math.MaxInt - 1, math.MaxInt}

// note is one call of Note.
type note struct{ index, replica int }

// model is a tally by the chapter's definitions: of each slot, who has accepted there.
type model struct {
	n    int
	held map[int][7]bool
}

// newModel returns the model of a tally without slots.
func newModel(n int) *model { return &model{n: n, held: map[int][7]bool{}} }

func (m *model) note(x note) api.Errno {
	if x.index < 1 || x.index > last || x.replica < 0 || x.replica > m.n-1 {
		return api.ErrArg
	}
	who, ok := m.held[x.index]
	if !ok && len(m.held) == room {
		return api.ErrFull
	}
	who[x.replica] = true
	m.held[x.index] = who
	return api.OK
}

func (m *model) count(index int) int {
	n := 0
	for _, has := range m.held[index] {
		if has {
			n++
		}
	}
	return n
}

// hasMajority reports whether more than half of the replicas have accepted there.
func (m *model) hasMajority(index int) bool { return 2*m.count(index) > m.n }

// upto is the greatest of the indices, from the given one on, such that all slots behind that one and up to the index have a majority.
func (m *model) upto(from int) int {
	if from < 0 || from > last {
		return from
	}
	greatest := from
	for far := 1; far <= room; far++ {
		all := true
		for index := from + 1; index <= from+far; index++ {
			all = all && m.hasMajority(index)
		}
		if all {
			greatest = from + far
		}
	}
	return greatest
}

func (m *model) drop(index int) {
	left := map[int][7]bool{}
	for i, who := range m.held {
		if i > index {
			left[i] = who
		}
	}
	m.held = left
}

// made returns a new tally for n replicas.
func made(t *testing.T, n int) *tally.Tally {
	t.Helper()
	x, e := tally.New(n)
	if e != api.OK || x == nil {
		t.Fatalf("New(%d): %v, %d", n, x, e)
	}
	return x
}

// want wants the call to return that error.
func want(t *testing.T, call string, got, wanted api.Errno) {
	t.Helper()
	if got != wanted {
		t.Errorf("%s: %d instead of %d", call, got, wanted)
	}
}

// wantNote notes it, and wants that error.
func wantNote(t *testing.T, x *tally.Tally, n note, wanted api.Errno) {
	t.Helper()
	want(t, fmt.Sprint("Note ", n), x.Note(n.index, n.replica), wanted)
}

// wantCount wants so many to have accepted there.
func wantCount(t *testing.T, x *tally.Tally, index, wanted int) {
	t.Helper()
	if got := x.Count(index); got != wanted {
		t.Errorf("Count(%d): %d instead of %d", index, got, wanted)
	}
}

// wantUpto wants all to be chosen from there up to the wanted index.
func wantUpto(t *testing.T, x *tally.Tally, from, wanted int) {
	t.Helper()
	if got := x.Upto(from); got != wanted {
		t.Errorf("Upto(%d): %d instead of %d", from, got, wanted)
	}
}

// wantHeld wants the tally to tell what the model does: at each slot that is held, and beside it, and far away.
func wantHeld(t *testing.T, at string, x *tally.Tally, m *model) {
	t.Helper()
	indices := append([]int{-2, -1, 0, 1, 2}, far...)
	for i := range m.held {
		indices = append(indices, i-2, i-1, i, i+1)
	}
	for _, i := range indices {
		if got, wanted := x.Count(i), m.count(i); got != wanted {
			t.Errorf("%s: Count(%d): %d instead of %d", at, i, got, wanted)
		}
		if got, wanted := x.Upto(i), m.upto(i); got != wanted {
			t.Errorf("%s: Upto(%d): %d instead of %d", at, i, got, wanted)
		}
	}
}

// noteBoth notes it in both, and wants the same error of both.
func noteBoth(t *testing.T, x *tally.Tally, m *model, n note) {
	t.Helper()
	wantNote(t, x, n, m.note(n))
}

// filled returns a tally for n replicas with one note in each of the 64 slots from first on, step by step, and its model.
func filled(t *testing.T, n, first, step int) (*tally.Tally, *model) {
	t.Helper()
	x, m := made(t, n), newModel(n)
	for i := range room {
		noteBoth(t, x, m, note{first + i*step, i % n})
	}
	if len(m.held) != room {
		t.Fatalf("%d slots are held", len(m.held))
	}
	return x, m
}
