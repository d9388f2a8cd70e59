package tally_test

import (
	"fmt"
	"math"
	"testing"

	"sexton/api"
	"sexton/tally"
)

// sizes are the numbers of replicas that there may be.
var sizes = []int{3, 5, 7}

// ofExamples returns the tally of the chapter's examples.
func ofExamples(t *testing.T) *tally.Tally {
	t.Helper()
	x := made(t, 3)
	for _, n := range []note{{1, 0}, {1, 2}, {2, 1}, {3, 0}, {3, 1}, {3, 2}} {
		wantNote(t, x, n, api.OK)
	}
	return x
}

// TestExamples does what the chapter's examples tell.
func TestExamples(t *testing.T) { // P18.1, P18.2, P18.3, P18.4, P18.5
	x := ofExamples(t)
	for index, count := range map[int]int{1: 2, 2: 1, 3: 3, 4: 0} {
		wantCount(t, x, index, count)
	}
	for from, upto := range map[int]int{0: 1, 1: 1, 2: 3, 9: 9, -1: -1} {
		wantUpto(t, x, from, upto)
	}
	wantNote(t, x, note{2, 0}, api.OK)
	wantUpto(t, x, 0, 3)
	x.Drop(2)
	wantCount(t, x, 2, 0)
	wantUpto(t, x, 0, 0)
	wantUpto(t, x, 2, 3)
	wantNote(t, x, note{0, 1}, api.ErrArg)
	wantNote(t, x, note{1, 3}, api.ErrArg)
	if y, e := tally.New(4); y != nil || e != api.ErrArg {
		t.Errorf("New(4): %v, %d", y, e)
	}
}

// TestNumbers holds the constant to the chapter's number.
func TestNumbers(t *testing.T) { // P18.2
	if tally.MostKept != 64 {
		t.Errorf("%d", tally.MostKept)
	}
}

// TestNew makes tallies for each number of replicas that there may be, and for others.
func TestNew(t *testing.T) { // P1, P18.1
	for _, n := range sizes {
		wantHeld(t, fmt.Sprint("new, of ", n), made(t, n), newModel(n))
	}
	for _, n := range append([]int{-7, -5, -3, -2, -1, 0, 1, 2, 4, 6, 8, 9, 64, 1<<32 + 3, 1<<32 + 5, 1<<32 + 7, math.MinInt + 3, math.MinInt + 5}, far...) {
		if x, e := tally.New(n); x != nil || e != api.ErrArg {
			t.Errorf("New(%d): %v, %d", n, x, e)
		}
	}
}

// TestNewIsApart wants two tallies to know nothing of each other.
func TestNewIsApart(t *testing.T) { // P18.1
	x, y := made(t, 3), made(t, 5)
	wantNote(t, x, note{1, 0}, api.OK)
	wantNote(t, x, note{1, 1}, api.OK)
	wantHeld(t, "nothing was noted", y, newModel(5))
	wantNote(t, y, note{1, 4}, api.OK)
	wantNote(t, x, note{1, 4}, api.ErrArg)
	wantCount(t, x, 1, 2)
	wantCount(t, y, 1, 1)
	y.Drop(1)
	wantCount(t, x, 1, 2)
}

// TestNote notes each replica, first and last ones too, in slots up to the last index.
func TestNote(t *testing.T) { // P18.2, P18.3, P18.4
	for _, n := range sizes {
		for _, index := range []int{1, 2, 24, 64, 65, 1 << 20, 1<<31 - 1, 1 << 31, 1 << 32, 1<<32 + 1, last - 1, last} {
			x, m := made(t, n), newModel(n)
			for _, replica := range []int{0, n - 1, 2, 1} {
				noteBoth(t, x, m, note{index, replica})
				wantHeld(t, fmt.Sprint("of ", n, ", ", index, ": ", replica), x, m)
			}
		}
	}
}

// TestWrongNotes notes what may not be, in a tally with room, and wants it to change nothing.
func TestWrongNotes(t *testing.T) { // P1, P18.2
	for _, n := range sizes {
		x, m := made(t, n), newModel(n)
		noteBoth(t, x, m, note{1, 0})
		noteBoth(t, x, m, note{2, n - 1})
		for _, wrong := range wrongNotes(n) {
			wantNote(t, x, wrong, api.ErrArg)
			wantHeld(t, fmt.Sprint("of ", n, ", after ", wrong), x, m)
		}
	}
}

// wrongNotes returns notes with a wrong index, with a wrong replica, and with both.
func wrongNotes(n int) []note {
	indices := []int{math.MinInt, math.MinInt + 1, -last - 1, -last, -2, -1, 0, last + 1, last + 2, 2 * last, math.MaxInt - 1, math.MaxInt}
	replicas := []int{math.MinInt, math.MinInt + 1, -n, -2, -1, n, n + 1, 8, 9, 63, 64, 65, 256, 1 << 32, last, math.MaxInt - 1, math.MaxInt}
	var l []note
	for _, index := range indices {
		for replica := range n {
			l = append(l, note{index, replica})
		}
		for _, replica := range replicas {
			l = append(l, note{index, replica})
		}
	}
	for _, replica := range replicas {
		for _, index := range []int{1, 2, 3, 64, last} {
			l = append(l, note{index, replica})
		}
	}
	return l
}

// TestFull fills a tally with 64 slots: one more is refused, the 64 are noted on, and nothing changes by what is refused.
func TestFull(t *testing.T) { // P18.2, P18.3, P18.4
	for _, n := range sizes {
		for _, at := range []struct{ first, step int }{{1, 1}, {100, 2}, {last - 63, 1}, {1, last / room}} {
			x, m := filled(t, n, at.first, at.step)
			where := fmt.Sprint("of ", n, ", ", at)
			wantHeld(t, where, x, m)
			for _, index := range []int{1, 2, 65, 99, 101, 227, last/2 + 2, last - 64, last - 1, last} {
				if _, held := m.held[index]; !held {
					wantNote(t, x, note{index, 0}, api.ErrFull)
					wantNote(t, x, note{index, n - 1}, api.ErrFull)
					wantCount(t, x, index, 0)
				}
			}
			wantHeld(t, where+", refused", x, m)
			for i := range room {
				noteBoth(t, x, m, note{at.first + i*at.step, (i + 1) % n})
				noteBoth(t, x, m, note{at.first + i*at.step, (i + 2) % n})
			}
			wantHeld(t, where+", noted on", x, m)
		}
	}
}

// TestOneBeforeFull wants the 64th slot to be held, and the 65th not.
func TestOneBeforeFull(t *testing.T) { // P18.2
	x := made(t, 3)
	for index := 1; index <= 63; index++ {
		wantNote(t, x, note{index, 0}, api.OK)
	}
	wantNote(t, x, note{last, 2}, api.OK)
	wantNote(t, x, note{64, 0}, api.ErrFull)
	wantCount(t, x, last, 1)
	wantCount(t, x, 64, 0)
}

// TestWrongWhileFull wants ErrArg ahead of ErrFull, and nothing changed.
func TestWrongWhileFull(t *testing.T) { // P1, P18.2
	for _, n := range sizes {
		x, m := filled(t, n, 3, 1)
		for _, wrong := range wrongNotes(n) {
			wantNote(t, x, wrong, api.ErrArg)
		}
		wantHeld(t, fmt.Sprint("of ", n), x, m)
	}
}

// TestMajority wants a majority to be enough for Upto, and one less not.
func TestMajority(t *testing.T) { // P18.3, P18.4, P18.6
	for _, n := range sizes {
		most := map[int]int{3: 2, 5: 3, 7: 4}[n]
		for first := range n {
			x := made(t, n)
			for i := range n {
				wantCount(t, x, 1, i)
				wantUpto(t, x, 0, map[bool]int{false: 0, true: 1}[i >= most])
				wantNote(t, x, note{1, (first + i) % n}, api.OK)
			}
			wantCount(t, x, 1, n)
			wantUpto(t, x, 0, 1)
		}
	}
}

// TestGap leaves slots without a majority between others, and closes them later.
func TestGap(t *testing.T) { // P18.4, P18.6
	x := made(t, 5)
	for _, index := range []int{1, 2, 4, 5, 7} {
		for replica := range 3 {
			wantNote(t, x, note{index, replica}, api.OK)
		}
	}
	for from, upto := range []int{2, 2, 2, 5, 5, 5, 7, 7, 8} {
		wantUpto(t, x, from, upto)
	}
	wantNote(t, x, note{3, 4}, api.OK)
	wantNote(t, x, note{3, 1}, api.OK)
	wantUpto(t, x, 0, 2)
	wantNote(t, x, note{3, 0}, api.OK)
	for from, upto := range []int{5, 5, 5, 5, 5, 5, 7, 7, 8} {
		wantUpto(t, x, from, upto)
	}
	for replica := 2; replica < 5; replica++ {
		wantUpto(t, x, 0, 5)
		wantNote(t, x, note{6, replica}, api.OK)
	}
	for from, upto := range []int{7, 7, 7, 7, 7, 7, 7, 7, 8} {
		wantUpto(t, x, from, upto)
	}
}

// TestUptoRows asks from slots that are held and are not, and from the first and last indices and beside them.
func TestUptoRows(t *testing.T) { // P1, P18.4
	x := made(t, 3)
	for _, index := range []int{1, 2, 10, 11, 12, last - 2, last - 1, last} {
		wantNote(t, x, note{index, 0}, api.OK)
		wantNote(t, x, note{index, 2}, api.OK)
	}
	wantNote(t, x, note{20, 1}, api.OK)
	for _, row := range []struct{ from, upto int }{
		{-2, -2}, {-1, -1}, {0, 2}, {1, 2}, {2, 2}, {3, 3}, {8, 8}, {9, 12}, {10, 12}, {11, 12}, {12, 12}, {13, 13}, {19, 19}, {20, 20}, {21, 21}, {1 << 32, 1 << 32},
		{last - 4, last - 4}, {last - 3, last}, {last - 2, last}, {last - 1, last}, {last, last}, {last + 1, last + 1}, {last + 2, last + 2},
		{math.MaxInt, math.MaxInt}, {math.MaxInt - 1, math.MaxInt - 1}, {math.MinInt, math.MinInt}, {math.MinInt + 1, math.MinInt + 1}, {-last, -last},
	} {
		wantUpto(t, x, row.from, row.upto)
	}
}

// TestUptoAll has majorities in all 64 slots that a tally holds, at the first indices and at the last ones.
func TestUptoAll(t *testing.T) { // P18.4, P18.6
	for _, n := range sizes {
		for _, first := range []int{1, 2, 1000, last - 63} {
			x := made(t, n)
			for i := range room {
				for replica := n / 2; replica < n; replica++ {
					wantNote(t, x, note{first + i, replica}, api.OK)
				}
			}
			for i := range room + 1 {
				wantUpto(t, x, first-1+i, first+room-1)
			}
			wantUpto(t, x, first+room, first+room)
		}
	}
}

// TestDropRows drops nothing, some and all of what is held, by indices that are held and are not.
func TestDropRows(t *testing.T) { // P1, P18.5
	held := []int{2, 3, 5, 9, last - 1, last}
	for _, row := range []struct{ index, dropped int }{
		{math.MinInt, 0}, {-last, 0}, {-1, 0}, {0, 0}, {1, 0}, {2, 1}, {3, 2}, {4, 2}, {5, 3}, {6, 3}, {8, 3}, {9, 4}, {10, 4}, {1 << 32, 4},
		{last - 2, 4}, {last - 1, 5}, {last, 6}, {last + 1, 6}, {math.MaxInt - 1, 6}, {math.MaxInt, 6},
	} {
		x := made(t, 5)
		for _, index := range held {
			for replica := range 3 {
				wantNote(t, x, note{index, replica}, api.OK)
			}
		}
		for range 2 {
			x.Drop(row.index)
			for i, index := range held {
				wantCount(t, x, index, map[bool]int{false: 3, true: 0}[i < row.dropped])
			}
		}
	}
}

// TestDropOfNone drops of a tally that holds no slots.
func TestDropOfNone(t *testing.T) { // P18.5
	x := made(t, 7)
	for _, index := range append([]int{-1, 0, 1, 64}, far...) {
		x.Drop(index)
		wantHeld(t, fmt.Sprint("dropped ", index), x, newModel(7))
	}
	wantNote(t, x, note{1, 6}, api.OK)
	wantCount(t, x, 1, 1)
}

// TestDropAndUpto wants what is dropped to have no majority any more, and what is not to have it.
func TestDropAndUpto(t *testing.T) { // P18.4, P18.5, P18.6
	for index := range 7 {
		x := made(t, 3)
		for i := 1; i <= 5; i++ {
			wantNote(t, x, note{i, 1}, api.OK)
			wantNote(t, x, note{i, 2}, api.OK)
		}
		x.Drop(index)
		for from := range 8 {
			upto := from
			if from >= index && from < 5 {
				upto = 5
			}
			wantUpto(t, x, from, upto)
		}
	}
}

// TestRoomAgain drops some slots of a full tally, and wants just so much room behind it, also at indices that were dropped.
func TestRoomAgain(t *testing.T) { // P18.2, P18.5
	for _, dropped := range []int{0, 1, 2, 63, 64} {
		for _, next := range []int{1, 200, last - 80} {
			x, m := filled(t, 3, 101, 1)
			x.Drop(100 + dropped)
			m.drop(100 + dropped)
			for i := range dropped {
				wantNote(t, x, note{next + i, 0}, api.OK)
				m.note(note{next + i, 0})
			}
			wantNote(t, x, note{next + dropped, 0}, api.ErrFull)
			wantNote(t, x, note{99, 0}, api.ErrFull)
			wantHeld(t, fmt.Sprint(dropped, " of 64, then ", next), x, m)
		}
	}
}

// TestDroppedIsForgotten notes in a slot that was dropped: who had accepted there before counts no more.
func TestDroppedIsForgotten(t *testing.T) { // P18.3, P18.5
	x := made(t, 5)
	for replica := range 5 {
		wantNote(t, x, note{7, replica}, api.OK)
	}
	x.Drop(7)
	wantCount(t, x, 7, 0)
	wantNote(t, x, note{7, 3}, api.OK)
	wantCount(t, x, 7, 1)
	wantUpto(t, x, 6, 6)
}

// TestRepeats notes one replica again and again: it counts once, and takes no room.
func TestRepeats(t *testing.T) { // P18.2, P18.7
	for _, n := range sizes {
		for replica := range n {
			x := made(t, n)
			for range 200 {
				wantNote(t, x, note{1, replica}, api.OK)
				wantCount(t, x, 1, 1)
				wantUpto(t, x, 0, 0)
			}
			for index := 2; index <= 64; index++ {
				wantNote(t, x, note{index, replica}, api.OK)
			}
			wantNote(t, x, note{65, replica}, api.ErrFull)
			wantNote(t, x, note{1, replica}, api.OK)
			wantCount(t, x, 1, 1)
		}
	}
}

// wantNil wants each call to answer as of a tally that New did not return.
func wantNil(t *testing.T, x *tally.Tally) {
	t.Helper()
	for _, i := range append([]int{-1, 0, 1, 2, 3, 7, 64}, far...) {
		for _, replica := range append([]int{-1, 0, 1, 2, 3, 7}, far...) {
			wantNote(t, x, note{i, replica}, api.ErrNil)
		}
		wantCount(t, x, i, 0)
		wantUpto(t, x, i, i)
		x.Drop(i)
	}
}

// TestNil calls everything of a nil tally, and of ones that New did not return.
func TestNil(t *testing.T) { // P1, P18.2, P18.3, P18.4, P18.5
	wantNil(t, nil)
	wantNil(t, &tally.Tally{})
	wantNil(t, new(tally.Tally))
	x := ofExamples(t)
	c := *x
	wantNil(t, &c)
	wantCount(t, x, 3, 3)
	wantUpto(t, x, 2, 3)
	wantUpto(t, x, 0, 1)
	wantNote(t, x, note{2, 0}, api.OK)
	*x = tally.Tally{}
	wantNil(t, x)
}
