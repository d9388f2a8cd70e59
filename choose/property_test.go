package choose_test

import (
	"math/rand"
	"slices"
	"testing"

	"sexton/api"
	"sexton/choose"
)

// few calls f with each list of few reports, of 3, 5 and 7 replicas.
func few(f func(l []api.Report)) {
	each(3, withBallots(api.Ballot{}, of(1, 0), of(1, 2), of(2, 1), of(3, 0)), f)
	each(5, withBallots(of(1, 3), of(2, 0)), f)
	each(5, withBallots(of(2, 0), of(2, 4)), f)
	each(7, withBallots(of(1, 6)), f)
}

// decided is what Decide returns for right reports.
func decided(t *testing.T, l []api.Report) (uint8, api.Entry) {
	t.Helper()
	what, x, e := choose.Decide(len(l), l)
	if e != api.OK {
		t.Errorf("Decide(%d, %s): %d", len(l), show(l), e)
	}
	return what, x
}

// wantLive holds reports to P17.3.
func wantLive(t *testing.T, l []api.Report) {
	t.Helper()
	isAll := allReported(l)
	isMost := 2*count(l, isState(api.ReAbsent, api.ReIntact)) > len(l) && count(l, isState(api.ReLost, api.ReBlind)) == 0
	if what, _ := decided(t, l); what == choose.Wait && (isAll || isMost) {
		t.Errorf("Decide(%d, %s) waits", len(l), show(l))
	}
}

// greatestIntact returns the place of the first report that is intact with the greatest ballot, or -1 if there is none, or another one is lost with a greater ballot.
func greatestIntact(l []api.Report) int {
	isLess := func(i int, states ...uint8) bool {
		return slices.ContainsFunc(l, func(r api.Report) bool { return isState(states...)(r) && isBelow(l[i].Ballot, r.Ballot) })
	}
	for i, r := range l {
		if r.State == api.ReIntact && !isLess(i, api.ReIntact, api.ReLost) {
			return i
		}
	}
	return -1
}

// wantGreatest holds reports to P17.4.
func wantGreatest(t *testing.T, l []api.Report) {
	t.Helper()
	i := greatestIntact(l)
	if i < 0 || !isKnown(l) {
		return
	}
	if what, x := decided(t, l); what != choose.Value || x != l[i].Entry {
		t.Errorf("Decide(%d, %s): %d, %v; want the entry of report %d", len(l), show(l), what, x, i)
	}
}

func TestLive(t *testing.T) { // P17.3
	few(func(l []api.Report) { wantLive(t, l) })
	r := rand.New(rand.NewSource(4))
	for range 50000 {
		l := anyReports(r, sizes[r.Intn(3)])
		wantLive(t, l)
		for i := range l {
			if l[i].State == api.ReNone {
				l[i].State = api.ReBlind
			}
		}
		wantLive(t, l)
		for i := range l {
			if l[i].State == api.ReBlind || l[i].State == api.ReLost {
				l[i].State = api.ReNone
			}
		}
		wantLive(t, l)
	}
}

// TestLiveRows has just a majority, with nothing else or one other report, and one report less.
func TestLiveRows(t *testing.T) { // P17.3
	for _, n := range sizes {
		for known := range n + 1 {
			for _, x := range []api.Report{absent, intact(1, 0, 1), intact(3, 2, 2)} {
				l := append(slices.Repeat([]api.Report{nothing}, n-known), slices.Repeat([]api.Report{x}, known)...)
				if what, _ := decided(t, l); (what != choose.Wait) != (2*known > n) {
					t.Errorf("Decide(%d, %s): %d", n, show(l), what)
				}
			}
		}
		for _, x := range []api.Report{absent, blind, lost(1, 0), intact(1, 0, 1)} {
			wantLive(t, slices.Repeat([]api.Report{x}, n))
		}
	}
}

func TestGreatest(t *testing.T) { // P17.4
	few(func(l []api.Report) { wantGreatest(t, l) })
	r := rand.New(rand.NewSource(5))
	for range 100000 {
		wantGreatest(t, anyReports(r, sizes[r.Intn(3)]))
	}
}

// TestGreatestAmongAll has one report that is intact, at each place, and all others of each kind, as far as a majority stays known.
func TestGreatestAmongAll(t *testing.T) { // P17.4
	others := []api.Report{nothing, absent, blind, lost(2, 1), lost(1, 3), intact(2, 0, 2), intact(1, 6, 3)}
	for _, n := range sizes {
		for i := range n {
			for _, a := range others {
				for _, b := range others {
					l := slices.Repeat([]api.Report{a}, n)
					for k := range n / 2 {
						l[(i+k)%n] = b
					}
					l[i] = intact(2, 1, 1)
					if isKnown(l) {
						wantValue(t, 1, l...)
					}
				}
			}
		}
	}
}

// tellByBallot has each report that is intact tell an entry that depends on its ballot alone.
func tellByBallot(l []api.Report) []api.Report {
	l = slices.Clone(l)
	for i, r := range l {
		if r.State == api.ReIntact {
			l[i].Entry = put(8*r.Ballot.Round + r.Ballot.Replica)
		}
	}
	return l
}

// wantAnyOrder holds reports to P17.5, by changing the places of each two neighbours. For all lists of the same reports that is each order.
func wantAnyOrder(t *testing.T, l []api.Report) {
	t.Helper()
	l = tellByBallot(l)
	want, wantEntry := decided(t, l)
	for i := range l[1:] {
		l[i], l[i+1] = l[i+1], l[i]
		if what, x := decided(t, l); what != want || x != wantEntry {
			t.Errorf("Decide(%d, %s): %d, %v; in another order %d, %v", len(l), show(l), what, x, want, wantEntry)
		}
		l[i], l[i+1] = l[i+1], l[i]
	}
}

func TestAnyOrder(t *testing.T) { // P17.5
	each(3, withBallots(api.Ballot{}, of(1, 0), of(1, 2), of(2, 1), of(3, 0)), func(l []api.Report) { wantAnyOrder(t, l) })
	each(5, withBallots(of(1, 3), of(2, 0)), func(l []api.Report) { wantAnyOrder(t, l) })
	each(7, withBallots(of(2, 5)), func(l []api.Report) { wantAnyOrder(t, l) })
}

// TestAnyOrderAtRandom holds reports to one order of theirs: none of the others may tell anything else.
func TestAnyOrderAtRandom(t *testing.T) { // P17.5
	r := rand.New(rand.NewSource(6))
	for range 20000 {
		l := tellByBallot(anyReports(r, sizes[r.Intn(3)]))
		what, x := decided(t, l)
		for range 10 {
			r.Shuffle(len(l), func(i, k int) { l[i], l[k] = l[k], l[i] })
			wantDecide(t, len(l), l, what, x, api.OK)
		}
	}
}
