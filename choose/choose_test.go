package choose_test

import (
	"fmt"
	"math"
	"math/rand"
	"slices"
	"strconv"
	"testing"

	"sexton/api"
	"sexton/choose"
)

var (
	sizes   = []int{3, 5, 7}
	nothing api.Report
	absent  = api.Report{State: api.ReAbsent}
	blind   = api.Report{State: api.ReBlind}
	noop    = api.Entry{Kind: api.EnNoop}
)

// The numbers of ballots that are tried, ascending; some of them are right in their lowest bits only.
var numbers = []int{math.MinInt, math.MinInt + 1, -1 << 40, -1<<32 + 1, -2, -1, 0, 1, 2, 3, 6, 7, 255, 256, 1 << 32, 1<<32 + 1, 1<<40 - 1, 1 << 40, 1<<40 + 1, 1<<48 + 1, math.MaxInt - 1, math.MaxInt}

// of is short for a ballot.
func of(round, replica int) api.Ballot { return api.Ballot{Round: round, Replica: replica} }

// put is an entry that has all the fields an entry can have, distinguished by its number.
func put(seq int) api.Entry {
	return api.Entry{Kind: api.EnOp, Client: seq % 4, Seq: seq, Op: api.Op{Kind: api.OpSwap, Key: "k" + strconv.Itoa(seq), Old: "o", Value: "v"}}
}

// lost and intact are reports with the ballot round.replica.
func lost(round, replica int) api.Report {
	return api.Report{State: api.ReLost, Ballot: of(round, replica)}
}

func intact(round, replica, seq int) api.Report {
	return api.Report{State: api.ReIntact, Ballot: of(round, replica), Entry: put(seq)}
}

// isBelow tells the order of ballots anew.
func isBelow(a, b api.Ballot) bool {
	if a.Round != b.Round {
		return a.Round < b.Round
	}
	return a.Replica < b.Replica
}

// count returns of how many reports it holds.
func count(l []api.Report, holds func(r api.Report) bool) int {
	n := 0
	for _, r := range l {
		if holds(r) {
			n++
		}
	}
	return n
}

func isState(states ...uint8) func(r api.Report) bool {
	return func(r api.Report) bool { return slices.Contains(states, r.State) }
}

// isKnown reports whether a majority has known reports.
func isKnown(l []api.Report) bool {
	return 2*count(l, isState(api.ReAbsent, api.ReIntact, api.ReLost)) > len(l)
}

// allReported reports whether no report is none.
func allReported(l []api.Report) bool { return count(l, isState(api.ReNone)) == 0 }

// decideOf is the chapter's definition, told anew.
func decideOf(n int, l []api.Report) (uint8, api.Entry, api.Errno) {
	if !slices.Contains(sizes, n) || len(l) != n || slices.ContainsFunc(l, func(r api.Report) bool { return r.State > 4 }) {
		return 0, api.Entry{}, api.ErrArg
	}
	if isKnown(l) {
		if what, x := byBallots(l); what != 0 {
			return what, x, api.OK
		}
	}
	if !allReported(l) {
		return 0, api.Entry{}, api.OK
	}
	best := -1
	for i, r := range l {
		if r.State == api.ReIntact && (best < 0 || isBelow(l[best].Ballot, r.Ballot)) {
			best = i
		}
	}
	if best < 0 {
		return 1, noop, api.OK
	}
	return 2, l[best].Entry, api.OK
}

// byBallots tells what may be proposed where a majority has known reports: 0, if the slot is undetermined. Each ballot is asked by itself: how many may have accepted with it something that is not known?
func byBallots(l []api.Report) (uint8, api.Entry) {
	var told []api.Report
	for _, r := range l {
		if r.State == api.ReIntact || r.State == api.ReLost {
			told = append(told, r)
		}
	}
	slices.SortStableFunc(told, func(a, b api.Report) int {
		switch {
		case isBelow(b.Ballot, a.Ballot):
			return -1
		case isBelow(a.Ballot, b.Ballot):
			return 1
		}
		return 0
	})
	for _, b := range told {
		i := slices.IndexFunc(l, func(r api.Report) bool { return r.State == api.ReIntact && r.Ballot == b.Ballot })
		if i >= 0 {
			return 2, l[i].Entry
		}
		many := count(l, func(r api.Report) bool {
			return r.State == api.ReNone || r.State == api.ReBlind || r.State == api.ReLost && !isBelow(r.Ballot, b.Ballot)
		})
		if 2*many > len(l) {
			return 0, api.Entry{}
		}
	}
	return 1, noop
}

// show writes reports as the chapter does.
func show(l []api.Report) string {
	s := ""
	for _, r := range l {
		b := fmt.Sprintf("%d.%d", r.Ballot.Round, r.Ballot.Replica)
		switch r.State {
		case api.ReNone:
			s += "-, "
		case api.ReAbsent:
			s += "a, "
		case api.ReIntact:
			s += fmt.Sprintf("%s x%d, ", b, r.Entry.Seq)
		case api.ReLost:
			s += "L " + b + ", "
		case api.ReBlind:
			s += "b, "
		default:
			s += fmt.Sprintf("State %d, ", r.State)
		}
	}
	return s
}

// wantDecide also holds that the reports stay as they were, and those behind them in the same memory.
func wantDecide(t *testing.T, n int, l []api.Report, want uint8, wantEntry api.Entry, wantErr api.Errno) {
	t.Helper()
	before := slices.Concat(l, []api.Report{intact(9, 9, 99), lost(9, 8), blind})
	memory := slices.Clone(before)
	what, x, e := choose.Decide(n, memory[:len(l)])
	if what != want || x != wantEntry || e != wantErr {
		t.Errorf("Decide(%d, %s): %d, %v, %d; want %d, %v, %d", n, show(l), what, x, e, want, wantEntry, wantErr)
	}
	if !slices.Equal(memory, before) {
		t.Errorf("Decide(%d, %s): the reports are now %s", n, show(l), show(memory))
	}
}

// wantDefined holds reports to the chapter's definition.
func wantDefined(t *testing.T, n int, l []api.Report) {
	t.Helper()
	what, x, e := decideOf(n, l)
	wantDecide(t, n, l, what, x, e)
}

// wantWait, wantNoop and wantValue are for right reports.
func wantWait(t *testing.T, l ...api.Report) {
	t.Helper()
	wantDecide(t, len(l), l, choose.Wait, api.Entry{}, api.OK)
}

func wantNoop(t *testing.T, l ...api.Report) {
	t.Helper()
	wantDecide(t, len(l), l, choose.Noop, noop, api.OK)
}

func wantValue(t *testing.T, seq int, l ...api.Report) {
	t.Helper()
	wantDecide(t, len(l), l, choose.Value, put(seq), api.OK)
}

func TestExamples(t *testing.T) { // P17.1
	wantNoop(t, absent, absent, nothing)
	wantWait(t, absent, nothing, nothing)
	wantValue(t, 1, intact(1, 0, 1), absent, nothing)
	wantValue(t, 2, intact(1, 0, 1), intact(2, 1, 2), nothing)
	wantWait(t, lost(2, 1), absent, nothing)
	wantNoop(t, lost(2, 1), absent, absent)
	wantValue(t, 1, lost(2, 1), intact(1, 0, 1), absent)
	wantWait(t, lost(2, 1), intact(1, 0, 1), nothing)
	wantWait(t, blind, intact(1, 0, 1), nothing)
	wantValue(t, 1, lost(2, 1), lost(2, 1), intact(1, 0, 1))
	wantNoop(t, blind, blind, absent)
	wantValue(t, 1, blind, intact(1, 0, 1), absent)
	wantDecide(t, 3, []api.Report{absent, absent}, 0, api.Entry{}, api.ErrArg)
	wantDecide(t, 3, []api.Report{absent, absent, {State: 5}}, 0, api.Entry{}, api.ErrArg)
}

// TestNumbers holds what other layers and tests may have written down as numbers.
func TestNumbers(t *testing.T) { // P17.1
	if choose.Wait != 0 || choose.Noop != 1 || choose.Value != 2 {
		t.Errorf("Wait %d, Noop %d, Value %d", choose.Wait, choose.Noop, choose.Value)
	}
}

// TestMajority has a majority of known reports, and one less, with each of the states that are known and each that is not.
func TestMajority(t *testing.T) { // P17.1
	wantNoop(t, absent, nothing, absent)
	wantNoop(t, absent, blind, absent)
	wantWait(t, nothing, absent, blind)
	wantWait(t, blind, nothing, blind)
	wantWait(t, nothing, nothing, nothing)
	wantNoop(t, blind, blind, blind)
	wantNoop(t, nothing, nothing, absent, absent, absent)
	wantNoop(t, nothing, blind, absent, absent, absent)
	wantNoop(t, blind, blind, absent, absent, absent)
	wantWait(t, nothing, nothing, nothing, absent, absent)
	wantWait(t, blind, blind, nothing, absent, absent)
	wantNoop(t, blind, blind, blind, absent, absent)
	wantValue(t, 1, nothing, nothing, absent, intact(1, 0, 1), absent)
	wantWait(t, nothing, nothing, nothing, intact(1, 0, 1), intact(1, 0, 2))
	wantWait(t, blind, blind, nothing, intact(1, 0, 1), intact(1, 0, 2))
	wantValue(t, 1, blind, blind, blind, intact(1, 0, 1), intact(1, 0, 2))
	wantValue(t, 2, nothing, nothing, lost(1, 0), intact(1, 0, 2), absent)
	wantWait(t, nothing, nothing, lost(1, 0), absent, absent)
	wantNoop(t, nothing, lost(1, 0), absent, absent, absent)
	wantNoop(t, nothing, nothing, nothing, absent, absent, absent, absent)
	wantNoop(t, blind, nothing, blind, absent, absent, absent, absent)
	wantWait(t, nothing, nothing, nothing, nothing, absent, absent, absent)
	wantWait(t, blind, blind, blind, nothing, absent, absent, absent)
	wantNoop(t, blind, blind, blind, blind, absent, absent, absent)
	wantValue(t, 3, nothing, blind, nothing, intact(1, 6, 1), absent, intact(2, 0, 3), absent)
	wantWait(t, nothing, blind, nothing, blind, absent, intact(2, 0, 3), absent)
	wantValue(t, 3, blind, blind, blind, blind, absent, intact(2, 0, 3), intact(1, 0, 4))
}

// TestLostAddUp has losses by greater ballots that count for lesser ones: a majority is reached by all of them, with those that are none or blind.
func TestLostAddUp(t *testing.T) { // P17.1
	wantWait(t, lost(3, 0), lost(2, 1), nothing)
	wantNoop(t, lost(3, 0), lost(2, 1), absent)
	wantValue(t, 1, lost(3, 0), lost(2, 1), intact(1, 0, 1))
	wantValue(t, 1, lost(3, 0), lost(2, 1), absent, absent, intact(1, 0, 1))
	wantNoop(t, lost(3, 0), lost(2, 1), absent, absent, absent)
	wantWait(t, lost(3, 0), lost(2, 1), absent, absent, nothing)
	wantWait(t, lost(3, 0), lost(2, 1), nothing, absent, intact(1, 0, 1))
	wantValue(t, 1, lost(3, 0), absent, nothing, absent, intact(1, 0, 1))
	wantValue(t, 1, lost(3, 0), lost(1, 0), nothing, absent, intact(2, 0, 1))
	wantValue(t, 1, lost(3, 0), lost(2, 0), nothing, absent, intact(2, 0, 1))
	wantWait(t, lost(3, 0), lost(2, 1), nothing, absent, intact(2, 0, 1))
	wantValue(t, 1, lost(3, 0), blind, absent, intact(2, 0, 1), lost(1, 0))
	wantNoop(t, lost(3, 0), lost(3, 0), lost(1, 0), absent, absent)
	wantWait(t, lost(3, 0), lost(3, 0), nothing, lost(1, 0), absent)
	wantValue(t, 1, lost(4, 0), lost(3, 0), lost(2, 0), absent, absent, absent, intact(1, 0, 1))
	wantValue(t, 1, lost(4, 0), lost(3, 0), nothing, absent, absent, absent, intact(1, 0, 1))
	wantWait(t, lost(4, 0), lost(3, 0), nothing, lost(2, 0), absent, absent, intact(1, 0, 1))
	wantWait(t, lost(4, 0), lost(3, 0), nothing, blind, absent, absent, intact(1, 0, 1))
	wantValue(t, 2, lost(4, 0), lost(3, 0), nothing, lost(2, 0), absent, intact(2, 0, 2), intact(1, 0, 1))
	wantValue(t, 2, lost(4, 0), lost(3, 0), nothing, lost(1, 6), absent, intact(2, 0, 2), intact(1, 0, 1))
	// A majority that is reached at one ballot is not undone by the lesser ones; and all that were lost count, also after the last intact one.
	wantWait(t, lost(4, 0), lost(4, 0), lost(4, 0), nothing, intact(3, 0, 1), intact(2, 0, 2), intact(1, 0, 3))
	wantWait(t, lost(4, 0), lost(3, 0), lost(2, 0), lost(1, 0), absent, absent, nothing)
}

// TestLostAndIntact has ballots that are both: what is intact is known for all that accepted with the ballot.
func TestLostAndIntact(t *testing.T) { // P17.1
	wantValue(t, 1, lost(2, 1), intact(2, 1, 1), nothing)
	wantValue(t, 1, intact(2, 1, 1), lost(2, 1), nothing)
	wantValue(t, 1, lost(2, 1), lost(2, 1), intact(2, 1, 1))
	wantValue(t, 1, lost(2, 1), lost(2, 1), lost(2, 1), intact(2, 1, 1), nothing)
	wantValue(t, 1, nothing, nothing, lost(2, 1), lost(2, 1), intact(2, 1, 1))
	wantValue(t, 1, lost(2, 1), lost(2, 1), lost(2, 1), lost(2, 1), lost(2, 1), intact(2, 1, 1), nothing)
	wantValue(t, 1, lost(2, 1), intact(2, 1, 1), lost(3, 0), absent, nothing)
	wantWait(t, lost(2, 1), intact(2, 1, 1), lost(3, 0), lost(3, 0), nothing)
	// The same round or the same replica is not the same ballot.
	wantWait(t, lost(2, 1), intact(2, 0, 1), nothing)
	wantValue(t, 1, lost(2, 1), intact(2, 2, 1), nothing)
	wantWait(t, lost(2, 1), intact(1, 1, 1), nothing)
	wantValue(t, 1, lost(2, 1), intact(3, 1, 1), nothing)
	wantWait(t, lost(2, 0), intact(1, 2, 1), nothing)
}

// TestIntactTogether has several entries that are intact with one ballot: the first one is the value. That can't be in a cluster, but it can in a call.
func TestIntactTogether(t *testing.T) { // P17.1
	wantValue(t, 1, intact(2, 1, 1), intact(2, 1, 1), nothing)
	wantValue(t, 1, intact(2, 1, 1), intact(2, 1, 2), nothing)
	wantValue(t, 2, intact(2, 1, 2), intact(2, 1, 1), nothing)
	wantValue(t, 2, nothing, intact(2, 1, 2), intact(2, 1, 1))
	wantValue(t, 2, intact(2, 0, 1), intact(2, 1, 2), intact(2, 1, 3))
	wantValue(t, 3, intact(2, 1, 3), intact(2, 0, 1), intact(2, 1, 2))
	wantValue(t, 3, lost(2, 1), intact(2, 1, 3), intact(2, 1, 2))
	wantValue(t, 3, lost(3, 0), lost(3, 0), blind, intact(2, 1, 3), intact(2, 1, 2))
	wantValue(t, 3, lost(3, 0), lost(3, 0), intact(1, 2, 4), intact(2, 1, 3), intact(2, 1, 2))
	wantValue(t, 4, blind, blind, blind, blind, intact(1, 2, 5), intact(2, 1, 4), intact(2, 1, 3))
	wantValue(t, 5, absent, intact(1, 0, 6), nothing, intact(3, 4, 5), intact(3, 4, 4), nothing, intact(3, 4, 6))
}

// TestOneHasNotReported has the same reports with one of them, and without.
func TestOneHasNotReported(t *testing.T) { // P17.1
	for _, x := range []api.Report{absent, blind, lost(1, 0), lost(2, 1), lost(3, 2)} {
		wantNoop(t, lost(2, 1), blind, x)
		wantWait(t, lost(2, 1), blind, nothing)
		wantValue(t, 1, lost(2, 1), intact(1, 0, 1), x)
		wantWait(t, lost(2, 1), intact(1, 0, 1), nothing)
		wantValue(t, 1, lost(4, 0), intact(1, 0, 1), blind, lost(4, 0), x)
		wantWait(t, lost(4, 0), intact(1, 0, 1), blind, lost(4, 0), nothing)
		wantNoop(t, blind, blind, blind, lost(4, 0), absent, blind, x)
		wantWait(t, blind, blind, blind, lost(4, 0), absent, blind, nothing)
	}
	wantValue(t, 2, blind, intact(1, 0, 1), intact(1, 1, 2))
	wantValue(t, 2, blind, blind, intact(1, 1, 2))
	wantWait(t, blind, nothing, intact(1, 1, 2))
}

// TestEntries has entries that are told as they are, whether they may be or not.
func TestEntries(t *testing.T) { // P17.1
	whole := api.Entry{Kind: 255, Client: math.MinInt, Seq: math.MaxInt, Op: api.Op{Kind: 255, Key: "a key that is too long", Old: "\xff\x00", Value: "a value that is too long"}}
	for _, x := range []api.Entry{{}, noop, {Kind: api.EnNoop, Seq: 1}, {Kind: api.EnOp}, {Client: 1}, {Op: api.Op{Value: "v"}}, whole, put(7)} {
		r := api.Report{State: api.ReIntact, Ballot: of(2, 1), Entry: x}
		for _, l := range [][]api.Report{{r, absent, nothing}, {intact(1, 0, 1), r, lost(2, 1)}, {blind, blind, r}, {lost(3, 0), lost(4, 0), r}, {absent, absent, r, lost(2, 1), lost(1, 0)}} {
			wantDecide(t, len(l), l, choose.Value, x, api.OK)
		}
	}
}

// each calls f with each list of n of the reports; an intact one gets an entry of its own, by its place.
func each(n int, reports []api.Report, f func(l []api.Report)) {
	l := make([]api.Report, n)
	var fill func(i int)
	fill = func(i int) {
		if i == n {
			f(l)
			return
		}
		for _, r := range reports {
			if r.State == api.ReIntact {
				r.Entry = put(i + 1)
			}
			l[i] = r
			fill(i + 1)
		}
	}
	fill(0)
}

// withBallots returns the reports of all states, with each of the ballots where there is one.
func withBallots(ballots ...api.Ballot) []api.Report {
	l := []api.Report{nothing, absent, blind}
	for _, b := range ballots {
		l = append(l, api.Report{State: api.ReLost, Ballot: b}, api.Report{State: api.ReIntact, Ballot: b})
	}
	return l
}

// TestEachReports has each list of few reports; of those of 7 replicas there are too many to have all states beside several ballots.
func TestEachReports(t *testing.T) { // P17.1
	for _, x := range []struct {
		n       int
		reports []api.Report
	}{
		{3, withBallots(api.Ballot{}, of(1, 0), of(1, 1), of(1, 2), of(2, 0), of(2, 1), of(3, 0), of(1<<40, 2))},
		{5, withBallots(of(1, 3), of(2, 0), of(2, 4))},
		{7, withBallots(of(1, 6))},
		{7, []api.Report{nothing, lost(1, 6), lost(2, 5), intact(1, 6, 1), intact(2, 5, 1)}},
		{7, []api.Report{blind, lost(1, 6), lost(2, 5), intact(1, 6, 1), absent}},
	} {
		each(x.n, x.reports, func(l []api.Report) { wantDefined(t, x.n, l) })
	}
}

// TestEachBallots has ballots that may not be, and the greatest and least ones.
func TestEachBallots(t *testing.T) { // P17.1
	ballots := []api.Ballot{}
	for _, round := range []int{math.MinInt, -1, 0, 1, math.MaxInt} {
		for _, replica := range []int{math.MinInt, -1, 0, 1, math.MaxInt} {
			ballots = append(ballots, of(round, replica))
		}
	}
	each(3, withBallots(ballots...), func(l []api.Report) { wantDefined(t, 3, l) })
	for _, x := range []struct{ less, greater api.Ballot }{
		{of(math.MinInt, math.MinInt), of(math.MinInt, math.MinInt+1)}, {of(math.MinInt, math.MaxInt), of(math.MaxInt, math.MinInt)}, {of(-1, 5), api.Ballot{}}, {of(0, -1), api.Ballot{}},
		{api.Ballot{}, of(0, 1)}, {of(-2, 0), of(-1, 0)}, {of(1<<40, 6), of(1<<40+1, 0)}, {of(1, 6), of(1, 7)}, {of(1<<32, 0), of(1<<32+1, 0)}, {of(math.MaxInt, math.MaxInt-1), of(math.MaxInt, math.MaxInt)},
	} {
		a, b := api.Report{State: api.ReIntact, Ballot: x.less, Entry: put(1)}, api.Report{State: api.ReIntact, Ballot: x.greater, Entry: put(2)}
		lostA, lostB := api.Report{State: api.ReLost, Ballot: x.less}, api.Report{State: api.ReLost, Ballot: x.greater}
		wantValue(t, 2, a, b, nothing)
		wantValue(t, 2, b, a, nothing)
		wantValue(t, 2, lostA, b, nothing)
		wantWait(t, lostB, a, nothing)
		wantValue(t, 1, lostB, a, absent)
		wantValue(t, 2, blind, blind, a, nothing, b, absent, lostA)
		wantWait(t, blind, blind, a, nothing, lostB, absent, lostA)
		wantValue(t, 2, blind, blind, blind, a, b, blind, a)
		wantNoop(t, lostA, lostB, blind)
	}
}

// anyReports are n reports at random, more often with ballots that are near to each other; each has an index and an entry that may matter or not.
func anyReports(r *rand.Rand, n int) []api.Report {
	l := make([]api.Report, n)
	kinds := 1 + r.Intn(5)
	for i := range l {
		l[i] = api.Report{Index: numbers[r.Intn(len(numbers))], State: uint8(r.Intn(5)), Ballot: of(1+r.Intn(kinds), r.Intn(2)), Entry: put(r.Intn(20))}
		if r.Intn(3) == 0 {
			l[i].State = api.ReIntact + uint8(r.Intn(2))
		}
		if r.Intn(8) == 0 {
			l[i].Ballot = of(numbers[r.Intn(len(numbers))], numbers[r.Intn(len(numbers))])
		}
	}
	return l
}

func TestReportsAtRandom(t *testing.T) { // P17.1
	r := rand.New(rand.NewSource(1))
	for range 200000 {
		n := sizes[r.Intn(3)]
		wantDefined(t, n, anyReports(r, n))
	}
}

// TestWrongNumbers has lists that would be right for another n, or for none.
func TestWrongNumbers(t *testing.T) { // P17.1
	wrong := []int{math.MinInt, math.MinInt + 3, -1<<32 + 3, -253, -7, -5, -3, -1, 0, 1, 2, 4, 6, 8, 9, 11, 255, 259, 261, 263, 1<<32 + 3, 1<<32 + 5, 1<<32 + 7, 1 << 40, math.MaxInt - 1, math.MaxInt}
	for length := range 16 {
		for _, x := range []api.Report{nothing, absent, blind, lost(1, 0), intact(1, 0, 1), {State: 5}} {
			l := slices.Repeat([]api.Report{x}, length)
			for _, n := range wrong {
				wantDecide(t, n, l, 0, api.Entry{}, api.ErrArg)
			}
			for _, n := range sizes {
				if length != n {
					wantDecide(t, n, l, 0, api.Entry{}, api.ErrArg)
				}
			}
		}
	}
	for _, n := range append(wrong, sizes...) {
		wantDecide(t, n, nil, 0, api.Entry{}, api.ErrArg)
		wantDecide(t, n, []api.Report{}, 0, api.Entry{}, api.ErrArg)
	}
	wantDecide(t, 259, slices.Repeat([]api.Report{absent}, 259), 0, api.Entry{}, api.ErrArg)
	wantDecide(t, 3, slices.Repeat([]api.Report{absent}, 259), 0, api.Entry{}, api.ErrArg)
}

// TestWrongStates has one wrong state, or more, at each place, beside reports with which it would not matter, and beside other errors.
func TestWrongStates(t *testing.T) { // P17.1
	for _, n := range sizes {
		for _, x := range []api.Report{nothing, absent, blind, lost(2, 1), intact(2, 1, 1), {State: 255}} {
			for state := 5; state <= 255; state++ {
				for i := range n {
					l := slices.Repeat([]api.Report{x}, n)
					l[i] = api.Report{Index: 1, State: uint8(state), Ballot: of(1, 0), Entry: put(2)}
					wantDecide(t, n, l, 0, api.Entry{}, api.ErrArg)
					for _, other := range []int{-3, 0, n - 1, n + 1, n + 2, math.MaxInt} {
						wantDecide(t, other, l, 0, api.Entry{}, api.ErrArg)
					}
					wantDecide(t, n, l[1:], 0, api.Entry{}, api.ErrArg)
					wantDecide(t, n, append(l, absent), 0, api.Entry{}, api.ErrArg)
				}
			}
		}
	}
}

// TestWhatMattersNothing changes indices, the entries of what is not intact, and the ballots of what has none.
func TestWhatMattersNothing(t *testing.T) { // P17.1
	r := rand.New(rand.NewSource(2))
	for range 20000 {
		n := sizes[r.Intn(3)]
		l := anyReports(r, n)
		what, x, e := decideOf(n, l)
		for range 5 {
			for i := range l {
				l[i].Index = numbers[r.Intn(len(numbers))]
				if l[i].State != api.ReIntact {
					l[i].Entry = put(100 + r.Intn(3))
				}
				if l[i].State == api.ReNone || l[i].State == api.ReAbsent || l[i].State == api.ReBlind {
					l[i].Ballot = of(numbers[r.Intn(len(numbers))], numbers[r.Intn(len(numbers))])
				}
			}
			wantDecide(t, n, l, what, x, e)
		}
	}
	great := of(math.MaxInt, math.MaxInt)
	for _, state := range []uint8{api.ReNone, api.ReAbsent, api.ReBlind} {
		noisy := api.Report{Index: -1, State: state, Ballot: great, Entry: put(9)}
		wantValue(t, 1, noisy, intact(1, 0, 1), absent)
		wantValue(t, 1, noisy, noisy, intact(1, 0, 1), absent, lost(1, 0))
	}
	wantNoop(t, api.Report{State: api.ReAbsent, Ballot: great, Entry: put(9)}, api.Report{State: api.ReLost, Ballot: of(1, 0), Entry: put(9)}, api.Report{State: api.ReBlind, Ballot: great, Entry: put(9)})
}
