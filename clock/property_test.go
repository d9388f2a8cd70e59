package clock_test

import (
	"fmt"
	"math/rand"
	"strings"
	"testing"

	"sexton/clock"
)

// sequences calls f with each sequence of that length of ticks without leading, ticks while leading, and hearing.
func sequences(length int, f func(string)) {
	all := 1
	for range length {
		all *= 3
	}
	for k := range all {
		l := make([]byte, length)
		for i := range l {
			l[i] = "tlh"[k%3]
			k /= 3
		}
		f(string(l))
	}
}

// TestEachSequence gives each short sequence behind each silence, and lets the patience pass behind it.
func TestEachSequence(t *testing.T) { // P19.2, P19.3, P19.4
	t.Parallel()
	for replica, patience := range patiences {
		for silent := range patience {
			sequences(5, func(s string) {
				c, m := made(t, replica), newModel(replica)
				giveBoth(t, fmt.Sprint("of ", replica), c, m, strings.Repeat("t", silent)+s+strings.Repeat("t", patience+1))
			})
		}
	}
}

// TestEachLongSequence gives each longer sequence just before the patience is over.
func TestEachLongSequence(t *testing.T) { // P19.2, P19.3, P19.4
	t.Parallel()
	for _, replica := range []int{0, 6} {
		before := strings.Repeat("t", patiences[replica]-3)
		sequences(9, func(s string) {
			giveBoth(t, fmt.Sprint("of ", replica), made(t, replica), newModel(replica), before+s)
		})
	}
}

// TestRandom gives random things, more or less often of each kind, against the model.
func TestRandom(t *testing.T) { // P19.2, P19.3, P19.4
	t.Parallel()
	r := rand.New(rand.NewSource(19))
	for round := range 700 {
		replica := round % 7
		c, m := made(t, replica), newModel(replica)
		heard, led := r.Intn(20), r.Intn(20)
		what := rune(tick)
		for range 400 {
			switch n := r.Intn(100); {
			case n < heard:
				giveBoth(t, fmt.Sprint("of ", replica), c, m, "h")
			case n < heard+led && what == tick:
				what = lead
			case n < heard+led:
				what = tick
			}
			giveBoth(t, fmt.Sprint("of ", replica), c, m, string(what))
		}
	}
}

// TestPeriod wants a replica that hears nothing to stand at each multiple of its patience, and at no other tick, for many ticks.
func TestPeriod(t *testing.T) { // P19.4
	for replica, patience := range patiences {
		c := made(t, replica)
		for i := 1; i <= 20000; i++ {
			if stands, beats := c.Tick(false); stands != (i%patience == 0) || beats || c.Silent() != i%patience {
				t.Fatalf("of %d, tick %d: %v, %v, %d", replica, i, stands, beats, c.Silent())
			}
		}
	}
}

// TestPeriodBehindAny wants the periods to begin behind whatever was last: a stand, leading, or hearing.
func TestPeriodBehindAny(t *testing.T) { // P19.4
	for replica, patience := range patiences {
		for _, before := range []string{"", "h", "l", "lll", "th", "tl", "tth", "hl", "lh", strings.Repeat("t", patience), strings.Repeat("t", patience) + "h", strings.Repeat("t", patience-1) + "l"} {
			c := made(t, replica)
			for _, what := range before {
				give(c, what)
			}
			for i := 1; i <= 4*patience; i++ {
				wantGiven(t, c, tick, 1, func(int) told { return told{i%patience == 0, false, i % patience} })
			}
		}
	}
}

// TestHearsOften wants a replica that hears of a leader each few ticks never to stand, as long as these are fewer than its patience.
func TestHearsOften(t *testing.T) { // P19.5
	for replica, patience := range patiences {
		for each := 1; each <= patience+1; each++ {
			c := made(t, replica)
			stands := 0
			for range 40 {
				for range each {
					if now, _ := c.Tick(false); now {
						stands++
					}
				}
				c.Hear()
			}
			wanted := 0
			if each >= patience {
				wanted = 40
			}
			if stands != wanted {
				t.Errorf("of %d, heard each %d ticks: %d instead of %d", replica, each, stands, wanted)
			}
		}
	}
}

// TestHearsAtAnyTime wants a replica not to stand that hears of a leader at random, but within each period of its patience.
func TestHearsAtAnyTime(t *testing.T) { // P19.5
	r := rand.New(rand.NewSource(195))
	for replica, patience := range patiences {
		c := made(t, replica)
		for range 500 {
			for range r.Intn(patience) {
				if stands, beats := c.Tick(false); stands || beats {
					t.Fatalf("of %d: %v, %v", replica, stands, beats)
				}
			}
			wantHear(t, c)
		}
	}
}

// untilStand returns the tick at which the replica stands first.
func untilStand(t *testing.T, c *clock.Clock) int {
	t.Helper()
	for i := 1; i <= 100; i++ {
		if stands, _ := c.Tick(false); stands {
			return i
		}
	}
	t.Fatal("it does not stand")
	return 0
}

// TestStaggering lets each two replicas hear of a leader at the same tick, whatever was before: the one with the lesser number stands first, 4 ticks earlier for each number between them.
func TestStaggering(t *testing.T) { // P19.6
	for a := range patiences {
		for b := a + 1; b < len(patiences); b++ {
			for before := range 70 {
				c, d := made(t, a), made(t, b)
				for i := range before {
					c.Tick(false)
					d.Tick(i%7 == 3)
				}
				if before > 0 {
					c.Hear()
					d.Hear()
				}
				if x, y := untilStand(t, c), untilStand(t, d); y-x != 4*(b-a) {
					t.Errorf("%d and %d, behind %d ticks: %d and %d", a, b, before, x, y)
				}
			}
		}
	}
}
