package choose_test

import (
	"fmt"
	"math/rand"
	"slices"
	"testing"

	"sexton/api"
	"sexton/choose"
)

// As many replicas and candidates as a world has room for.
const (
	mostReplicas   = 7
	mostCandidates = 6
)

// slot is what a replica has: a state, and by which candidate's ballot it accepted. As a report it may also be none.
type slot struct {
	state uint8
	by    int8
}

// acceptor is a replica: the candidate that it promised last (-1: none yet), and its slot. Candidates are numbered in the order of their ballots.
type acceptor struct {
	promised int8
	slot     slot
}

// candidate has what was reported to it, until it proposes: then it has the value (the number of the candidate that was free to propose it), and those who have ever accepted it, bit by bit.
type candidate struct {
	reports  [mostReplicas]slot
	proposed bool
	value    int8
	accepted uint8
}

// world is a slot of some replicas. All that its future depends on is in it, so that worlds that are the same need be explored but once.
type world struct {
	replicas   [mostReplicas]acceptor
	candidates [mostCandidates]candidate
}

// scope tells how many replicas a world has, and which ballots its candidates.
type scope struct {
	n       int
	ballots []api.Ballot
}

// What can happen in a world.
const (
	promise uint8 = iota // replica i to candidate c, with a report
	propose              // candidate c
	accept               // replica i, what candidate c proposed
	lose                 // replica i, what it accepted
	forget               // replica i, whether it accepted anything
)

// act is one thing that happens.
type act struct {
	what uint8
	i, c int
}

func (a act) String() string {
	switch a.what {
	case promise:
		return fmt.Sprintf("%d promises %d", a.i, a.c)
	case propose:
		return fmt.Sprintf("%d proposes", a.c)
	case accept:
		return fmt.Sprintf("%d accepts of %d", a.i, a.c)
	case lose:
		return fmt.Sprintf("%d loses", a.i)
	}
	return fmt.Sprintf("%d forgets", a.i)
}

func newWorld() world {
	w := world{}
	for i := range w.replicas {
		w.replicas[i] = acceptor{promised: -1, slot: slot{state: api.ReAbsent}}
	}
	return w
}

// after returns the world after the act, and whether that can happen.
func (s scope) after(w world, a act) (world, bool) {
	switch a.what {
	case promise:
		return w.promise(a.i, a.c)
	case propose:
		return s.propose(w, a.c)
	case accept:
		return w.accept(a.i, a.c)
	case lose:
		return s.damage(w, a.i, api.ReLost)
	}
	return s.damage(w, a.i, api.ReBlind)
}

// promise: a candidate that has proposed already needs no more reports. One that has not gets a new report, if it asks again.
func (w world) promise(i, c int) (world, bool) {
	if int(w.replicas[i].promised) > c {
		return w, false
	}
	w.replicas[i].promised = int8(c)
	if !w.candidates[c].proposed {
		w.candidates[c].reports[i] = w.replicas[i].slot
	}
	return w, true
}

func entryOf(value int8) api.Entry { return put(int(value)) }

// told returns a slot's report.
func (s scope) told(w world, x slot) api.Report {
	r := api.Report{State: x.state}
	if x.state == api.ReIntact || x.state == api.ReLost {
		r.Ballot = s.ballots[x.by]
	}
	if x.state == api.ReIntact {
		r.Entry = entryOf(w.candidates[x.by].value)
	}
	return r
}

// reports returns what was reported to candidate c.
func (s scope) reports(w world, c int) []api.Report {
	var l []api.Report
	for _, x := range w.candidates[c].reports[:s.n] {
		l = append(l, s.told(w, x))
	}
	return l
}

// propose: where a candidate may propose a noop, it proposes a value of its own, as if it were free to. If that is safe, a noop is.
func (s scope) propose(w world, c int) (world, bool) {
	if w.candidates[c].proposed || w.candidates[c].reports == [mostReplicas]slot{} {
		return w, false
	}
	what, x, e := choose.Decide(s.n, s.reports(w, c))
	if e != api.OK || what == choose.Wait {
		return w, false
	}
	value := int8(c)
	if what == choose.Value {
		value = int8(x.Seq)
	}
	w.candidates[c] = candidate{proposed: true, value: value}
	return w, true
}

func (w world) accept(i, c int) (world, bool) {
	if !w.candidates[c].proposed || int(w.replicas[i].promised) > c {
		return w, false
	}
	w.replicas[i] = acceptor{promised: int8(c), slot: slot{state: api.ReIntact, by: int8(c)}}
	w.candidates[c].accepted |= 1 << i
	return w, true
}

// damage can't happen to the last one that has a chosen value.
func (s scope) damage(w world, i int, state uint8) (world, bool) {
	x := &w.replicas[i].slot
	if x.state == api.ReBlind || state == api.ReLost && x.state != api.ReIntact {
		return w, false
	}
	if x.state = state; state == api.ReBlind {
		x.by = 0
	}
	return w, s.keepsChosen(w)
}

// isChosen reports whether a majority has accepted what candidate c proposed.
func (s scope) isChosen(w world, c int) bool {
	many := 0
	for i := range s.n {
		many += int(w.candidates[c].accepted >> i & 1)
	}
	return 2*many > s.n
}

// keepsChosen reports whether each value that was chosen is intact somewhere, with a ballot that is not less.
func (s scope) keepsChosen(w world) bool {
	for c := range s.ballots {
		keeps := func(x acceptor) bool {
			return x.slot.state == api.ReIntact && int(x.slot.by) >= c && w.candidates[x.slot.by].value == w.candidates[c].value
		}
		if s.isChosen(w, c) && !slices.ContainsFunc(w.replicas[:s.n], keeps) {
			return false
		}
	}
	return true
}

// isSafe reports whether no two different values were chosen.
func (s scope) isSafe(w world) bool {
	values := map[int8]int{}
	for c := range s.ballots {
		if s.isChosen(w, c) {
			values[w.candidates[c].value]++
		}
	}
	return len(values) <= 1
}

// wantSafe tells what was done, if two values are chosen.
func (s scope) wantSafe(t *testing.T, w world, done []act) {
	t.Helper()
	if !s.isSafe(w) {
		t.Fatalf("%d replicas, two values are chosen: %v", s.n, done)
	}
}

// all returns all acts that there are, possible or not.
func (s scope) all() []act {
	var l []act
	for i := range s.n {
		l = append(l, act{lose, i, 0}, act{forget, i, 0})
		for c := range s.ballots {
			l = append(l, act{promise, i, c}, act{accept, i, c})
		}
	}
	for c := range s.ballots {
		l = append(l, act{propose, 0, c})
	}
	return l
}

// explore holds each world that w can become to P17.2, but those that were seen.
func (s scope) explore(t *testing.T, w world, acts, done []act, seen map[world]struct{}) {
	t.Helper()
	s.wantSafe(t, w, done)
	seen[w] = struct{}{}
	for _, a := range acts {
		after, ok := s.after(w, a)
		if !ok {
			continue
		}
		if _, ok := seen[after]; !ok {
			s.explore(t, after, acts, append(done, a), seen)
		}
	}
}

// TestSafetyEach has all that can happen to a few replicas, with a few candidates. (Four candidates of three replicas, and two of five, are safe too, but take long.)
func TestSafetyEach(t *testing.T) { // P17.2
	for _, s := range []scope{
		{n: 3, ballots: []api.Ballot{of(1, 0), of(1, 2), of(2, 1)}},
		{n: 3, ballots: []api.Ballot{of(1, 2), of(2, 0), of(3, 0)}},
	} {
		s.explore(t, newWorld(), s.all(), nil, map[world]struct{}{})
	}
}

// TestSafetyAtRandom has more replicas and candidates. Mostly these are at work one after another: if they all begin at once, nothing is chosen.
func TestSafetyAtRandom(t *testing.T) { // P17.2
	r := rand.New(rand.NewSource(3))
	ballots := []api.Ballot{of(1, 0), of(1, 2), of(2, 1), of(3, 0), of(3, 4), of(5, 1)}
	for range 60000 {
		s := scope{n: sizes[r.Intn(3)], ballots: ballots[:2+r.Intn(5)]}
		w, done := newWorld(), []act(nil)
		losses, steps := 1+4*r.Intn(4), 6*s.n
		for step := range steps * len(s.ballots) {
			a := act{anyWhat(r, losses), r.Intn(s.n), step / steps}
			if r.Intn(5) == 0 {
				a.c = r.Intn(len(s.ballots))
			}
			if after, ok := s.after(w, a); ok {
				w, done = after, append(done, a)
				s.wantSafe(t, w, done)
			}
		}
	}
}

// anyWhat returns what happens, losses more often, if there are to be many.
func anyWhat(r *rand.Rand, losses int) uint8 {
	switch k := r.Intn(36 + 2*losses); {
	case k < 16:
		return promise
	case k < 22:
		return propose
	case k < 34:
		return accept
	case k < 34+2*losses:
		return lose
	}
	return forget
}

// eachOf returns the same act of each of the replicas.
func eachOf(what uint8, c int, replicas ...int) []act {
	var l []act
	for _, i := range replicas {
		l = append(l, act{what, i, c})
	}
	return l
}

func promises(c int, replicas ...int) []act { return eachOf(promise, c, replicas...) }
func proposes(c int) []act                  { return eachOf(propose, c, 0) }
func accepts(c int, replicas ...int) []act  { return eachOf(accept, c, replicas...) }
func loses(replicas ...int) []act           { return eachOf(lose, 0, replicas...) }
func forgets(replicas ...int) []act         { return eachOf(forget, 0, replicas...) }

// TestSafetyRows has pasts written out, after which a candidate must wait for a certain replica, and must propose a certain value then; all accept it.
func TestSafetyRows(t *testing.T) { // P17.2
	ballots := []api.Ballot{of(1, 0), of(1, 2), of(2, 1), of(3, 0)}
	for name, x := range map[string]struct {
		n    int
		past [][]act
		// c is the candidate, asked those whose promises don't suffice, and last the replica for which it must wait.
		c     int
		asked []int
		last  int
		value int8
	}{
		"one of two that accepted has lost it":          {3, [][]act{promises(0, 0, 1), proposes(0), accepts(0, 0, 1), loses(0)}, 1, []int{0, 2}, 1, 0},
		"one of two that accepted has forgotten it":     {3, [][]act{promises(0, 0, 1), proposes(0), accepts(0, 0, 1), forgets(0)}, 1, []int{0, 2}, 1, 0},
		"the only one that accepted has lost it":        {3, [][]act{promises(0, 0, 1), proposes(0), accepts(0, 0), loses(0)}, 1, []int{0, 2}, 1, 1},
		"the only one that accepted has forgotten it":   {3, [][]act{promises(0, 0, 1), proposes(0), accepts(0, 0), forgets(0)}, 1, []int{0, 2}, 1, 1},
		"two of three that accepted have lost it":       {5, [][]act{promises(0, 0, 1, 2), proposes(0), accepts(0, 0, 1, 2), loses(0, 1)}, 1, []int{0, 1, 3, 4}, 2, 0},
		"two of three that accepted have forgotten it":  {5, [][]act{promises(0, 0, 1, 2), proposes(0), accepts(0, 0, 1, 2), forgets(0, 1)}, 1, []int{0, 1, 3, 4}, 2, 0},
		"one has lost it, one has forgotten it":         {5, [][]act{promises(0, 0, 1, 2), proposes(0), accepts(0, 0, 1, 2), loses(0), forgets(1)}, 1, []int{0, 1, 3, 4}, 2, 0},
		"one has lost it with a greater ballot":         {5, [][]act{promises(0, 0, 1, 2), proposes(0), accepts(0, 0, 1, 2), promises(1, 0, 1, 2), proposes(1), accepts(1, 0), loses(0, 1)}, 2, []int{0, 1, 3, 4}, 2, 0},
		"each of three has lost it with another ballot": {7, [][]act{promises(0, 0, 1, 2, 3), proposes(0), accepts(0, 0, 1, 2, 3), promises(1, 0, 1, 2, 3), proposes(1), accepts(1, 0, 1), promises(2, 0, 1, 2, 3), proposes(2), accepts(2, 0), loses(0, 1, 2)}, 3, []int{0, 1, 2, 4, 5, 6}, 3, 0},
		// Replica 0 has what candidate 0 proposed, 1 what was chosen, with the ballot of candidate 1; there is nothing else left of it.
		"the first that is intact has another value": {5, [][]act{promises(0, 0, 3, 4), proposes(0), accepts(0, 0), promises(1, 1, 2, 3), proposes(1), accepts(1, 1, 2, 3, 4), promises(2, 1, 2, 3), proposes(2), accepts(2, 2, 3), loses(2, 3), forgets(4)}, 3, []int{0, 2, 3, 4}, 1, 1},
	} {
		s, w := scope{n: x.n, ballots: ballots}, newWorld()
		do := func(l []act) {
			for _, a := range l {
				after, ok := s.after(w, a)
				if !ok {
					t.Fatalf("%s: %v can't happen", name, a)
				}
				w = after
			}
		}
		for _, l := range x.past {
			do(l)
		}
		do(promises(x.c, x.asked...))
		if _, ok := s.propose(w, x.c); ok {
			t.Errorf("%s: does not wait, with %s", name, show(s.reports(w, x.c)))
			continue
		}
		do(promises(x.c, x.last))
		told := show(s.reports(w, x.c))
		do(proposes(x.c))
		if value := w.candidates[x.c].value; value != x.value {
			t.Errorf("%s: proposes value %d, not %d, with %s", name, value, x.value, told)
		}
		for i := range x.n {
			do(accepts(x.c, i))
		}
		s.wantSafe(t, w, nil)
	}
}
