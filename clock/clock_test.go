package clock_test

import (
	"fmt"
	"testing"

	"sexton/api"
	"sexton/clock"
)

// TestExamples does what the chapter's examples tell, each with a new clock of replica 0.
func TestExamples(t *testing.T) { // P19.1, P19.2, P19.3
	for replica, wanted := range map[int]int{0: 10, 3: 22, 6: 34, 7: 0} {
		if got := clock.Patience(replica); got != wanted {
			t.Errorf("Patience(%d): %d instead of %d", replica, got, wanted)
		}
	}
	c := made(t, 0)
	wantWait(t, c, 0, 9)
	wantStand(t, c)
	if n := c.Silent(); n != 0 {
		t.Errorf("%d", n)
	}
	c = made(t, 0)
	for i, row := range []struct{ leads, beats bool }{{true, false}, {true, false}, {true, true}, {false, false}, {true, false}, {true, false}, {true, true}} {
		if stands, beats := c.Tick(row.leads); stands || beats != row.beats {
			t.Errorf("%d: %v, %v", i, stands, beats)
		}
	}
	c = made(t, 0)
	wantWait(t, c, 0, 9)
	c.Hear()
	wantWait(t, c, 0, 9)
	wantStand(t, c)
}

// TestNumbers holds the constant to the chapter's number.
func TestNumbers(t *testing.T) { // P19.2
	if clock.BeatEvery != 3 {
		t.Errorf("%d", clock.BeatEvery)
	}
}

// TestPatience asks for each replica's patience, and for that of none.
func TestPatience(t *testing.T) { // P1, P19.1
	for replica, wanted := range patiences {
		if got := clock.Patience(replica); got != wanted {
			t.Errorf("Patience(%d): %d instead of %d", replica, got, wanted)
		}
	}
	for _, replica := range wrongReplicas {
		if got := clock.Patience(replica); got != 0 {
			t.Errorf("Patience(%d): %d", replica, got)
		}
	}
}

// TestNew makes a clock of each replica, and of none, and wants what is refused to change no clock.
func TestNew(t *testing.T) { // P1, P19.1, P19.3
	for replica, patience := range patiences {
		c := made(t, replica)
		if n := c.Silent(); n != 0 {
			t.Errorf("new, of %d: %d", replica, n)
		}
		wantWait(t, c, 0, patience-1)
		for _, wrong := range wrongReplicas {
			if x, e := clock.New(wrong); x != nil || e != api.ErrArg {
				t.Errorf("New(%d): %v, %d", wrong, x, e)
			}
		}
		if n := c.Silent(); n != patience-1 {
			t.Errorf("of %d: %d", replica, n)
		}
		wantStand(t, c)
	}
}

// TestSilentChangesNothing asks for the silence again and again.
func TestSilentChangesNothing(t *testing.T) { // P19.3
	c := made(t, 2)
	for i := 1; i < 18; i++ {
		c.Tick(false)
		for range 40 {
			if n := c.Silent(); n != i {
				t.Fatalf("%d instead of %d", n, i)
			}
		}
	}
	wantStand(t, c)
}

// TestPatienceIsOver goes to the tick before the patience is over, that tick, and the one behind it, several patiences one after another.
func TestPatienceIsOver(t *testing.T) { // P19.2, P19.3, P19.4
	for replica, patience := range patiences {
		c := made(t, replica)
		for range 5 {
			wantWait(t, c, 0, patience-1)
			wantStand(t, c)
			wantWait(t, c, 0, 1)
			wantWait(t, c, 1, patience-2)
			wantStand(t, c)
		}
	}
}

// TestHear lets a replica hear of a leader behind each number of ticks: at once, before the patience is over, when it is, and behind it.
func TestHear(t *testing.T) { // P19.3, P19.4
	for replica, patience := range patiences {
		for ticks := range 3*patience + 2 {
			c := made(t, replica)
			for i := 1; i <= ticks; i++ {
				wantGiven(t, c, tick, 1, func(int) told { return told{i%patience == 0, false, i % patience} })
			}
			for range 1 + ticks%3 {
				wantHear(t, c)
			}
			for range 2 {
				wantWait(t, c, 0, patience-1)
				wantStand(t, c)
			}
		}
	}
}

// TestHearsJustInTime lets a replica hear of a leader one tick before its patience is over, again and again.
func TestHearsJustInTime(t *testing.T) { // P19.3, P19.5
	for replica, patience := range patiences {
		c := made(t, replica)
		for range 50 {
			wantWait(t, c, 0, patience-1)
			wantHear(t, c)
		}
		wantWait(t, c, 0, patience-1)
		wantStand(t, c)
		wantHear(t, c)
		wantWait(t, c, 0, patience-1)
		wantStand(t, c)
	}
}

// TestLead leads for each number of ticks, stops, and leads again: each time the third tick is the first one that beats.
func TestLead(t *testing.T) { // P19.2, P19.4
	for replica, patience := range patiences {
		for first := range 12 {
			for second := 1; second <= 12; second++ {
				for pause := 1; pause < patience; pause += 1 + patience/3 {
					c := made(t, replica)
					wantLead(t, c, first)
					wantWait(t, c, 0, pause)
					wantLead(t, c, second)
					wantWait(t, c, 0, 1)
					wantLead(t, c, 3)
				}
			}
		}
	}
}

// TestLeadLong leads for many ticks.
func TestLeadLong(t *testing.T) { // P19.2, P19.4
	for replica := range patiences {
		wantLead(t, made(t, replica), 2000)
	}
}

// TestLeadingEndsTheSilence leads behind each number of ticks of silence, also once only, and wants the whole patience to pass behind it.
func TestLeadingEndsTheSilence(t *testing.T) { // P19.2, P19.3, P19.4
	for replica, patience := range patiences {
		for ticks := range patience {
			for led := 1; led <= 4; led++ {
				c := made(t, replica)
				wantWait(t, c, 0, ticks)
				wantLead(t, c, led)
				wantWait(t, c, 0, patience-1)
				wantStand(t, c)
				wantLead(t, c, led)
				wantWait(t, c, 0, patience-1)
				wantStand(t, c)
			}
		}
	}
}

// TestInTurn leads and does not lead in turn: so it neither stands nor beats.
func TestInTurn(t *testing.T) { // P19.2, P19.4
	for replica := range patiences {
		for led := 1; led <= 2; led++ {
			for waited := 1; waited <= 9; waited++ {
				c := made(t, replica)
				for range 60 {
					wantLead(t, c, led)
					wantWait(t, c, 0, waited)
				}
			}
		}
	}
}

// TestHearWhileLeading hears of a leader between the ticks while leading: that is no tick, so the beats stay where they are.
func TestHearWhileLeading(t *testing.T) { // P19.2, P19.3
	for replica := range patiences {
		for before := range 7 {
			c := made(t, replica)
			wantGiven(t, c, lead, before, func(i int) told { return told{false, i%3 == 0, 0} })
			wantHear(t, c)
			wantHear(t, c)
			wantGiven(t, c, lead, 20, func(i int) told { return told{false, (before+i)%3 == 0, 0} })
		}
	}
}

// TestApart wants two clocks, of each two numbers, to know nothing of each other.
func TestApart(t *testing.T) { // P19.1, P19.2, P19.3
	for a := range patiences {
		for b := range patiences {
			c, d := made(t, a), made(t, b)
			m, n := newModel(a), newModel(b)
			at := fmt.Sprint(a, " beside ", b)
			for range 8 {
				giveBoth(t, at, c, m, "ttttt")
				giveBoth(t, at, d, n, "ttttttt")
				giveBoth(t, at, c, m, "hll")
				giveBoth(t, at, d, n, "ttttlt")
				giveBoth(t, at, c, m, "lltttttt")
				giveBoth(t, at, d, n, "tttttttthttttttll")
				giveBoth(t, at, c, m, "tttttttttt")
				giveBoth(t, at, d, n, "llltttttttttttt")
			}
		}
	}
}

// wantNothing gives all kinds of things to a clock that New did not return, again and again, and wants it to tell nothing.
func wantNothing(t *testing.T, c *clock.Clock) {
	t.Helper()
	if n := c.Silent(); n != 0 {
		t.Errorf("Silent: %d", n)
	}
	for range 3 {
		for _, what := range []rune{tick, lead, hear} {
			wantGiven(t, c, what, 40, func(int) told { return told{} })
		}
	}
	for range 20 {
		for _, what := range "ttlhltthlll" {
			wantGiven(t, c, what, 1, func(int) told { return told{} })
		}
	}
}

// TestNil gives everything to a nil clock, and to ones that New did not return.
func TestNil(t *testing.T) { // P1, P19.2, P19.3
	wantNothing(t, nil)
	wantNothing(t, &clock.Clock{})
	wantNothing(t, new(clock.Clock))
	for replica, patience := range patiences {
		c := made(t, replica)
		wantWait(t, c, 0, patience-1)
		x := *c
		wantNothing(t, &x)
		if n := c.Silent(); n != patience-1 {
			t.Errorf("of %d: %d", replica, n)
		}
		wantStand(t, c)
		wantLead(t, c, 2)
		x = *c
		wantNothing(t, &x)
		wantGiven(t, c, lead, 1, func(int) told { return told{false, true, 0} })
		*c = clock.Clock{}
		wantNothing(t, c)
	}
}

// TestRefusedChangesNothing gives everything to a copy, and lays it back where New's clock was: it is as it was before.
func TestRefusedChangesNothing(t *testing.T) { // P19.2, P19.3
	for replica, patience := range patiences {
		c := made(t, replica)
		wantWait(t, c, 0, patience-1)
		x := *c
		wantNothing(t, &x)
		*c = x
		wantStand(t, c)
		wantLead(t, c, 2)
		x = *c
		wantNothing(t, &x)
		*c = x
		wantGiven(t, c, lead, 1, func(int) told { return told{false, true, 0} })
	}
}
