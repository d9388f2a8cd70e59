package clock_test

import (
	"math"
	"testing"

	"sexton/api"
	"sexton/clock"
)

// What a clock is given: a tick without leading, one while leading, and that the replica heard of a leader.
const (
	tick = 't'
	lead = 'l'
	hear = 'h'
)

// patiences are those of the replicas from 0 to 6, as the chapter has them.
var patiences = []int{10, 14, 18, 22, 26, 30, 34}

// wrongReplicas are numbers that are no replica's, some of them such that a narrower kind of int would take them for one, or their patience would come round to a right one.
var wrongReplicas = []int{
	math.MinInt, math.MinInt + 1, math.MinInt + 6, -1 << 62, -1<<62 + 3, math.MinInt32, -256, -8, -7, -6, -3, -2, -1,
	7, 8, 9, 10, 63, 64, 255, 256, 257, 1<<16 + 2, math.MaxInt32, 1 << 32, 1<<32 + 1, 1<<40 + 5, 1 << 62, 1<<62 + 6, math.MaxInt - 1, math.MaxInt,
}

// told is what a clock tells after something was given to it.
type told struct {
	stands, beats bool
	silent        int
}

// model is a clock by the chapter's definitions: all that was given to it, with a stand noted behind the tick that it was at.
type model struct {
	patience int
	past     []rune
}

// stood is noted where the replica stood.
const stood = 's'

// silent counts the ticks without leading, back to where the replica last heard of a leader, led, or stood.
func (m *model) silent() int {
	n := 0
	for i := len(m.past) - 1; i >= 0 && m.past[i] == tick; i-- {
		n++
	}
	return n
}

// led counts the consecutive ticks while leading, up to now. To hear of a leader is no tick.
func (m *model) led() int {
	n := 0
	for i := len(m.past) - 1; i >= 0 && (m.past[i] == lead || m.past[i] == hear); i-- {
		if m.past[i] == lead {
			n++
		}
	}
	return n
}

// give gives it to the model.
func (m *model) give(what rune) told {
	m.past = append(m.past, what)
	var x told
	switch what {
	case tick:
		if x.stands = m.silent() == m.patience; x.stands {
			m.past = append(m.past, stood)
		}
	case lead:
		x.beats = m.led()%3 == 0
	}
	x.silent = m.silent()
	return x
}

// give gives it to the clock.
func give(c *clock.Clock, what rune) told {
	var x told
	switch what {
	case tick:
		x.stands, x.beats = c.Tick(false)
	case lead:
		x.stands, x.beats = c.Tick(true)
	case hear:
		c.Hear()
	}
	x.silent = c.Silent()
	return x
}

// made returns a new clock of the replica.
func made(t *testing.T, replica int) *clock.Clock {
	t.Helper()
	c, e := clock.New(replica)
	if e != api.OK || c == nil {
		t.Fatalf("New(%d): %v, %d", replica, c, e)
	}
	return c
}

// newModel returns the model of a new clock of the replica.
func newModel(replica int) *model { return &model{patience: patiences[replica]} }

// giveBoth gives all of it to both, and wants the clock to tell each time what the model does.
func giveBoth(t *testing.T, at string, c *clock.Clock, m *model, all string) {
	t.Helper()
	for i, what := range all {
		if got, wanted := give(c, what), m.give(what); got != wanted {
			t.Fatalf("%s: %s, %c at %d: %v instead of %v", at, all, what, i, got, wanted)
		}
	}
}

// wantGiven gives it to the clock again and again, and wants it to tell that each time.
func wantGiven(t *testing.T, c *clock.Clock, what rune, times int, wanted func(i int) told) {
	t.Helper()
	for i := 1; i <= times; i++ {
		if got := give(c, what); got != wanted(i) {
			t.Errorf("%c, the time %d: %v instead of %v", what, i, got, wanted(i))
		}
	}
}

// wantWait gives ticks without leading, and wants the silence to grow from silent on, without a stand.
func wantWait(t *testing.T, c *clock.Clock, silent, times int) {
	t.Helper()
	wantGiven(t, c, tick, times, func(i int) told { return told{false, false, silent + i} })
}

// wantStand gives one tick without leading, and wants the replica to stand.
func wantStand(t *testing.T, c *clock.Clock) {
	t.Helper()
	wantGiven(t, c, tick, 1, func(int) told { return told{true, false, 0} })
}

// wantLead gives the first ticks while leading, and wants a beat at each third one.
func wantLead(t *testing.T, c *clock.Clock, times int) {
	t.Helper()
	wantGiven(t, c, lead, times, func(i int) told { return told{false, i%3 == 0, 0} })
}

// wantHear lets the replica hear of a leader, and wants no silence.
func wantHear(t *testing.T, c *clock.Clock) {
	t.Helper()
	wantGiven(t, c, hear, 1, func(int) told { return told{} })
}
