package vote_test

import (
	"math"
	"math/rand"
	"slices"
	"testing"

	"sexton/api"
	"sexton/ballot"
	"sexton/vote"
)

const most = 1 << 40

var none api.Ballot

// of is short for a ballot.
func of(round, replica int) api.Ballot { return api.Ballot{Round: round, Replica: replica} }

// The numbers that are tried, ascending; some of them are right in their lowest bits only.
var (
	rounds   = []int{math.MinInt, math.MinInt + 1, -1 << 40, -1<<32 + 1, -2, -1, 0, 1, 2, 3, 4, 255, 256, 1 << 32, 1<<32 + 1, most - 1, most, most + 1, 1<<48 + 1, math.MaxInt - 1, math.MaxInt}
	replicas = []int{math.MinInt, math.MinInt + 1, -1 << 40, -1<<32 + 1, -2, -1, 0, 1, 2, 3, 6, 7, 255, 256, 1 << 32, most, math.MaxInt - 1, math.MaxInt}
	snaps    = []int{math.MinInt, math.MinInt + 1, math.MinInt + 8, -1 << 40, -1<<32 + 8, -25, -24, -23, -8, -2, -1, 0, 1, 2, 7, 8, 9, 16, 23, 24, 25, 255, 256, 1 << 32, 1<<32 + 8, most - 26, most - 25, most - 24, most - 23, most - 2, most - 1, most, most + 1, most + 2, most + 24, 1<<41 + 8, 1<<48 + 1, math.MaxInt - 25, math.MaxInt - 24, math.MaxInt - 23, math.MaxInt - 1, math.MaxInt}
	afters   = []int{-most, -256, -25, -24, -23, -9, -8, -7, -2, -1, 0, 1, 2, 7, 8, 9, 22, 23, 24, 25, 26, 32, 33, 48, 49, 255, 256, 257, 264, 280, 1 << 32, 1<<32 + 1, 1<<32 + 24, most}
)

// ascending returns all ballots of these numbers, valid or not, each one less than the ones after it.
func ascending() []api.Ballot {
	var l []api.Ballot
	for _, round := range rounds {
		for _, replica := range replicas {
			l = append(l, of(round, replica))
		}
	}
	return l
}

// few are ballots in which each two rounds and each two replicas stand in each order, ascending.
func few() []api.Ballot {
	return []api.Ballot{of(math.MinInt, math.MinInt), of(math.MinInt, math.MaxInt), of(-1, 5), of(0, -1), none, of(0, 3), of(1, 0), of(1, 2), of(2, 0), of(2, 1), of(2, 2), of(3, 0), of(3, math.MaxInt), of(most, 6), of(most+1, 0), of(math.MaxInt, math.MinInt), of(math.MaxInt, math.MaxInt)}
}

// indicesBeside returns the slots' indices that are tried for a snapshot: those of their own, and those in relation to it.
func indicesBeside(snap int) []int {
	l := slices.Clone(snaps)
	for _, after := range afters {
		l = append(l, snap+after)
	}
	return l
}

// isBelow, whereOf and acceptOf are the chapter's definitions, told anew.
func isBelow(a, b api.Ballot) bool {
	if a.Round != b.Round {
		return a.Round < b.Round
	}
	return a.Replica < b.Replica
}

func whereOf(snap, index int) (uint8, api.Errno) {
	if snap < 0 || snap > most || index <= 0 || index > most {
		return 0, api.ErrArg
	}
	switch after := index - snap; {
	case after >= 25:
		return 2, api.OK
	case after >= 1:
		return 1, api.OK
	default:
		return 0, api.OK
	}
}

func acceptOf(promised api.Ballot, snap int, b api.Ballot, index int) (uint8, api.Ballot, api.Errno) {
	where, e := whereOf(snap, index)
	switch {
	case e != api.OK:
		return 0, none, e
	case b == none, isBelow(b, promised):
		return 0, promised, api.OK
	case where == 0:
		return 1, b, api.OK
	case where == 1:
		return 3, b, api.OK
	default:
		return 2, b, api.OK
	}
}

func wantPromise(t *testing.T, promised, b, want api.Ballot, wantOk bool) {
	t.Helper()
	if then, ok := vote.Promise(promised, b); then != want || ok != wantOk {
		t.Errorf("Promise(%v, %v): %v, %t; want %v, %t", promised, b, then, ok, want, wantOk)
	}
}

func wantWhere(t *testing.T, snap, index int, want uint8, wantErr api.Errno) {
	t.Helper()
	if where, e := vote.Where(snap, index); where != want || e != wantErr {
		t.Errorf("Where(%d, %d): %d, %d; want %d, %d", snap, index, where, e, want, wantErr)
	}
}

func wantAccept(t *testing.T, promised api.Ballot, snap int, b api.Ballot, index int, want uint8, wantThen api.Ballot, wantErr api.Errno) {
	t.Helper()
	if what, then, e := vote.Accept(promised, snap, b, index); what != want || then != wantThen || e != wantErr {
		t.Errorf("Accept(%v, %d, %v, %d): %d, %v, %d; want %d, %v, %d", promised, snap, b, index, what, then, e, want, wantThen, wantErr)
	}
}

func TestExamples(t *testing.T) { // P16.1, P16.2, P16.3
	wantPromise(t, of(2, 1), of(2, 1), of(2, 1), true)
	wantPromise(t, of(2, 1), of(3, 0), of(3, 0), true)
	wantPromise(t, of(2, 1), of(2, 0), of(2, 1), false)
	wantPromise(t, of(2, 1), none, of(2, 1), false)
	wantWhere(t, 8, 8, vote.Covered, api.OK)
	wantWhere(t, 8, 9, vote.Inside, api.OK)
	wantWhere(t, 8, 32, vote.Inside, api.OK)
	wantWhere(t, 8, 33, vote.Beyond, api.OK)
	wantWhere(t, 8, 0, 0, api.ErrArg)
	wantAccept(t, of(2, 1), 8, of(2, 1), 9, vote.Store, of(2, 1), api.OK)
	wantAccept(t, of(2, 1), 8, of(3, 0), 40, vote.Late, of(3, 0), api.OK)
	wantAccept(t, of(2, 1), 8, of(3, 0), 1, vote.Known, of(3, 0), api.OK)
	wantAccept(t, of(2, 1), 8, of(1, 2), 9, vote.Refuse, of(2, 1), api.OK)
}

// TestNumbers holds what other layers and tests may have written down as numbers.
func TestNumbers(t *testing.T) { // P16.2, P16.3
	if vote.Covered != 0 || vote.Inside != 1 || vote.Beyond != 2 {
		t.Errorf("Covered %d, Inside %d, Beyond %d", vote.Covered, vote.Inside, vote.Beyond)
	}
	if vote.Refuse != 0 || vote.Known != 1 || vote.Late != 2 || vote.Store != 3 {
		t.Errorf("Refuse %d, Known %d, Late %d, Store %d", vote.Refuse, vote.Known, vote.Late, vote.Store)
	}
}

func TestPromise(t *testing.T) { // P16.1
	l := ascending()
	for i, promised := range l {
		for k, b := range l {
			if k >= i && b != none {
				wantPromise(t, promised, b, b, true)
			} else {
				wantPromise(t, promised, b, promised, false)
			}
		}
	}
}

// TestPromiseRows has the edges written out: the promised ballot, and those beside it by round and by replica.
func TestPromiseRows(t *testing.T) { // P16.1
	for _, x := range []struct {
		promised, b api.Ballot
		ok          bool
	}{
		{of(5, 3), of(5, 3), true}, {of(5, 3), of(5, 2), false}, {of(5, 3), of(5, 4), true}, {of(5, 3), of(4, 3), false}, {of(5, 3), of(6, 3), true},
		{of(5, 3), of(4, 4), false}, {of(5, 3), of(6, 2), true}, {of(5, 3), of(5, 0), false}, {of(5, 3), of(4, 6), false}, {of(5, 3), of(6, 0), true},
		{none, none, false}, {none, of(1, 0), true}, {none, of(1, 6), true}, {none, of(most, 6), true}, {of(1, 0), none, false}, {of(1, 0), of(1, 0), true}, {of(most, 6), none, false}, {of(most, 6), of(most, 6), true}, {of(most, 6), of(most, 5), false}, {of(most, 6), of(most-1, 6), false},
		// Ballots that may not be are in the same order.
		{none, of(0, 1), true}, {none, of(0, -1), false}, {none, of(-1, 5), false}, {of(0, 1), none, false}, {of(0, 1), of(0, 1), true}, {of(0, 2), of(0, 1), false},
		{of(0, -1), none, false}, {of(-1, 0), none, false}, {of(-1, 0), of(-1, 0), true}, {of(-1, 0), of(-2, 9), false}, {of(-2, 9), of(-1, 0), true},
		{of(1, 2), of(1, 7), true}, {of(1, 7), of(1, 2), false}, {of(most, 0), of(most+1, 0), true}, {of(most+1, 0), of(most, 0), false},
		{of(math.MaxInt, math.MaxInt), of(math.MaxInt, math.MaxInt), true}, {of(math.MaxInt, math.MaxInt), of(math.MaxInt, math.MinInt), false}, {of(math.MaxInt, math.MaxInt), of(math.MinInt, math.MaxInt), false},
		{of(math.MinInt, math.MinInt), of(math.MinInt, math.MinInt), true}, {of(math.MinInt, math.MinInt), of(math.MinInt, math.MaxInt), true}, {of(math.MinInt, math.MinInt), of(math.MaxInt, math.MinInt), true},
		{of(math.MinInt, math.MaxInt), of(math.MinInt, math.MinInt), false}, {of(math.MinInt, math.MinInt), none, false}, {of(math.MaxInt, math.MaxInt), none, false},
	} {
		want := x.promised
		if x.ok {
			want = x.b
		}
		wantPromise(t, x.promised, x.b, want, x.ok)
	}
}

func TestWhere(t *testing.T) { // P16.2
	for _, snap := range snaps {
		for _, index := range indicesBeside(snap) {
			want, e := whereOf(snap, index)
			wantWhere(t, snap, index, want, e)
		}
	}
	for snap := -3; snap <= 60; snap++ {
		for index := -3; index <= 120; index++ {
			want, e := whereOf(snap, index)
			wantWhere(t, snap, index, want, e)
		}
	}
}

// TestWhereRows has the edges written out: the snapshot's own index, one after it, Slots after it and one more, at each of the snapshot's edges.
func TestWhereRows(t *testing.T) { // P16.2
	for _, x := range []struct {
		snap, index int
		want        uint8
	}{
		{0, 1, vote.Inside}, {0, 24, vote.Inside}, {0, 25, vote.Beyond}, {0, most, vote.Beyond},
		{1, 1, vote.Covered}, {1, 2, vote.Inside}, {1, 25, vote.Inside}, {1, 26, vote.Beyond}, {1, most, vote.Beyond},
		{24, 1, vote.Covered}, {24, 24, vote.Covered}, {24, 25, vote.Inside}, {24, 48, vote.Inside}, {24, 49, vote.Beyond},
		{1 << 32, 8, vote.Covered}, {1 << 32, 1<<32 + 1, vote.Inside}, {8, 1<<32 + 9, vote.Beyond}, {8, 256 + 9, vote.Beyond},
		{most - 25, most - 1, vote.Inside}, {most - 25, most, vote.Beyond}, {most - 24, most, vote.Inside},
		{most - 1, 1, vote.Covered}, {most - 1, most - 1, vote.Covered}, {most - 1, most, vote.Inside},
		{most, 1, vote.Covered}, {most, most - 1, vote.Covered}, {most, most, vote.Covered},
	} {
		wantWhere(t, x.snap, x.index, x.want, api.OK)
	}
}

// TestWhereWrong has either index wrong beside each place that the other could have, and both.
func TestWhereWrong(t *testing.T) { // P16.2
	wrongSnaps := []int{math.MinInt, -most, -24, -1, most + 1, most + 24, 1 << 41, math.MaxInt - 24, math.MaxInt - 23, math.MaxInt}
	wrongIndices := []int{math.MinInt, -most, -24, -1, 0, most + 1, most + 24, most + 25, 1 << 41, math.MaxInt - 1, math.MaxInt}
	for _, snap := range wrongSnaps {
		for _, index := range []int{1, 2, 23, 24, 25, 1 << 32, most - 1, most} {
			wantWhere(t, snap, index, 0, api.ErrArg)
		}
		for _, index := range wrongIndices {
			wantWhere(t, snap, index, 0, api.ErrArg)
		}
	}
	for _, snap := range []int{0, 1, 8, 1 << 32, most - 24, most - 1, most} {
		for _, index := range wrongIndices {
			wantWhere(t, snap, index, 0, api.ErrArg)
		}
	}
}

func TestAccept(t *testing.T) { // P16.3
	l := few()
	for _, snap := range snaps {
		for _, index := range indicesBeside(snap) {
			for _, promised := range l {
				for _, b := range l {
					want, then, e := acceptOf(promised, snap, b, index)
					wantAccept(t, promised, snap, b, index, want, then, e)
				}
			}
		}
	}
}

func TestAcceptOfManyBallots(t *testing.T) { // P16.3
	l := ascending()
	for _, promised := range l {
		for _, b := range l {
			for _, index := range []int{0, 8, 9, 33} {
				want, then, e := acceptOf(promised, 8, b, index)
				wantAccept(t, promised, 8, b, index, want, then, e)
			}
		}
	}
}

// TestAcceptRows has each place with each answer: the ballot is the promised one, greater, less, or none.
func TestAcceptRows(t *testing.T) { // P16.3
	for _, x := range []struct {
		snap, index int
		want        uint8
	}{
		{8, 1, vote.Known}, {8, 8, vote.Known}, {8, 9, vote.Store}, {8, 32, vote.Store}, {8, 33, vote.Late}, {8, most, vote.Late},
		{0, 1, vote.Store}, {0, 24, vote.Store}, {0, 25, vote.Late}, {1, 1, vote.Known}, {1, 25, vote.Store}, {1, 26, vote.Late},
		{most - 25, most, vote.Late}, {most - 24, most, vote.Store}, {most - 1, most, vote.Store}, {most - 1, most - 1, vote.Known}, {most, most, vote.Known}, {most, 1, vote.Known},
	} {
		for _, b := range []api.Ballot{of(2, 1), of(2, 2), of(3, 1), of(3, 0), of(most, 6), of(most+1, 7), of(math.MaxInt, math.MinInt)} {
			wantAccept(t, of(2, 1), x.snap, b, x.index, x.want, b, api.OK)
			wantAccept(t, none, x.snap, b, x.index, x.want, b, api.OK)
		}
		for _, b := range []api.Ballot{none, of(2, 0), of(1, 1), of(1, 2), of(1, 6), of(0, 7), of(-1, 0), of(2, -1), of(math.MinInt, math.MaxInt)} {
			wantAccept(t, of(2, 1), x.snap, b, x.index, vote.Refuse, of(2, 1), api.OK)
		}
		wantAccept(t, none, x.snap, none, x.index, vote.Refuse, none, api.OK)
		wantAccept(t, of(-1, 0), x.snap, none, x.index, vote.Refuse, of(-1, 0), api.OK)
		wantAccept(t, of(math.MaxInt, math.MaxInt), x.snap, of(most, 0), x.index, vote.Refuse, of(math.MaxInt, math.MaxInt), api.OK)
	}
}

// TestAcceptWrong has errors beside ballots that are promised, and beside ones that are refused: no ballot is told in either case.
func TestAcceptWrong(t *testing.T) { // P16.3
	for _, x := range []struct{ snap, index int }{
		{8, 0}, {8, -1}, {8, most + 1}, {8, math.MinInt}, {8, math.MaxInt}, {0, 0}, {most, most + 1}, {most - 1, most + 1}, {most - 24, most + 1},
		{-1, 1}, {-1, 8}, {-1, 23}, {-1, 24}, {most + 1, 1}, {most + 1, most}, {math.MinInt, 1}, {math.MaxInt, 1}, {math.MaxInt, most},
		{-1, 0}, {-1, -1}, {-8, -7}, {-1, most + 1}, {most + 1, 0}, {most + 1, most + 1}, {most + 1, most + 2}, {math.MinInt, math.MinInt}, {math.MaxInt, math.MaxInt}, {math.MinInt, math.MaxInt}, {math.MaxInt, math.MinInt},
	} {
		for _, promised := range few() {
			for _, b := range few() {
				wantAccept(t, promised, x.snap, b, x.index, 0, none, api.ErrArg)
			}
		}
	}
}

// TestAcceptIsPromiseAndWhere asks the package's own calls.
func TestAcceptIsPromiseAndWhere(t *testing.T) { // P16.1, P16.2, P16.3
	for _, snap := range snaps {
		for _, index := range indicesBeside(snap) {
			where, e := vote.Where(snap, index)
			if e != api.OK {
				continue
			}
			for _, promised := range few() {
				for _, b := range few() {
					then, ok := vote.Promise(promised, b)
					want := vote.Refuse
					if ok {
						want = map[uint8]uint8{vote.Covered: vote.Known, vote.Inside: vote.Store, vote.Beyond: vote.Late}[where]
					}
					wantAccept(t, promised, snap, b, index, want, then, api.OK)
				}
			}
		}
	}
}

// asked is a replica of which promises and acceptances are asked.
type asked struct {
	promised api.Ballot
	snap     int
	refused  []api.Ballot
}

// ask asks for a promise, if index is 0, or for an acceptance, and holds the answer to P16.4.
func (a *asked) ask(t *testing.T, b api.Ballot, index int) {
	t.Helper()
	before := a.promised
	then, ok := vote.Promise(before, b)
	if index != 0 {
		what, x, e := vote.Accept(before, a.snap, b, index)
		if e != api.OK { // nothing was asked, so nothing has changed
			return
		}
		then, ok = x, what != vote.Refuse
	}
	if isBelow(then, before) || ballot.Less(then, before) {
		t.Errorf("%v was promised, and %v after %v was asked", before, then, b)
	}
	if ok && (isBelow(b, before) || isBelow(b, then) || isBelow(then, b) || slices.Contains(a.refused, b)) {
		t.Errorf("%v was promised, %v is; %v is accepted, after %v were refused", before, then, b, a.refused)
	}
	if !ok {
		a.refused = append(a.refused, b)
	}
	a.promised = then
}

// holdRefused asks once more for all that was refused.
func (a *asked) holdRefused(t *testing.T) {
	t.Helper()
	for _, b := range a.refused {
		wantPromise(t, a.promised, b, a.promised, false)
		for _, index := range []int{1, a.snap, a.snap + 1, a.snap + 24, a.snap + 25, most} {
			if index >= 1 {
				wantAccept(t, a.promised, a.snap, b, index, vote.Refuse, a.promised, api.OK)
			}
		}
	}
}

// TestRefusedForGood has each four of few ballots asked in a row, after each that is promised at first.
func TestRefusedForGood(t *testing.T) { // P16.4
	l := few()
	for _, first := range l {
		for _, one := range l {
			for _, two := range l {
				for _, three := range l {
					a := asked{promised: first, snap: 8}
					a.ask(t, one, 9)
					a.ask(t, two, 0)
					a.ask(t, one, 40)
					a.ask(t, three, 8)
					a.holdRefused(t)
				}
			}
		}
	}
}

// TestRefusedForGoodAtRandom has snapshots in between, and wrong indices.
func TestRefusedForGoodAtRandom(t *testing.T) { // P16.4
	r := rand.New(rand.NewSource(1))
	many := ascending()
	for range 2000 {
		a := asked{}
		for range 30 {
			b := of(r.Intn(5), r.Intn(4))
			if r.Intn(8) == 0 {
				b = many[r.Intn(len(many))]
			}
			a.ask(t, b, max(0, a.snap+r.Intn(40)-8))
			a.ask(t, b, []int{math.MinInt, -1, 0, most + 1, math.MaxInt}[r.Intn(5)])
			if r.Intn(5) == 0 {
				a.snap += r.Intn(3) * 8
			}
		}
		a.holdRefused(t)
	}
}

// insideOf counts the slots inside, among those that are tried.
func insideOf(t *testing.T, snap int) int {
	t.Helper()
	l := indicesBeside(snap)
	for after := -300; after <= 300; after++ {
		l = append(l, snap+after)
	}
	slices.Sort(l)
	count := 0
	for _, index := range slices.Compact(l) {
		where, e := vote.Where(snap, index)
		if e == api.OK && where == vote.Inside {
			count++
		}
	}
	return count
}

// TestWindow holds that as many slots are inside as a log has, or as there are up to the last index.
func TestWindow(t *testing.T) { // P16.5
	for snap := range 600 {
		if count := insideOf(t, snap); count != api.Slots {
			t.Errorf("snapshot %d: %d are inside", snap, count)
		}
		if count := insideOf(t, most-snap); count != min(api.Slots, snap) {
			t.Errorf("snapshot %d: %d are inside", most-snap, count)
		}
	}
	for _, snap := range []int{255, 256, 1<<16 - 1, 1 << 16, 1<<31 - 1, 1 << 31, 1<<32 - 1, 1 << 32, 1<<32 + 8, 1 << 39} {
		if count := insideOf(t, snap); count != api.Slots {
			t.Errorf("snapshot %d: %d are inside", snap, count)
		}
	}
}

// TestWindowMovesOn holds each slot beside each two snapshots: it comes from beyond, is inside, and is covered from then on.
func TestWindowMovesOn(t *testing.T) { // P16.5
	l := []int{}
	for i := range 60 {
		l = append(l, i, 1<<32+i, most-i)
	}
	slices.Sort(l)
	for i, snap := range l {
		for _, later := range l[i+1:] {
			for _, index := range l[1:] {
				before, _ := vote.Where(snap, index)
				after, e := vote.Where(later, index)
				if e != api.OK || before == vote.Covered && after != vote.Covered || before == vote.Inside && after == vote.Beyond {
					t.Errorf("slot %d: %d for snapshot %d, then %d, %d for snapshot %d", index, before, snap, after, e, later)
				}
			}
		}
	}
}

// TestNoRoomTwice holds that slots of one place of the log are never inside together.
func TestNoRoomTwice(t *testing.T) { // P16.5
	for _, snap := range []int{0, 1, 8, 16, 24, 25, 1 << 32, most - 60} {
		places := map[int]int{}
		for index := max(1, snap-30); index <= snap+60; index++ {
			if where, _ := vote.Where(snap, index); where == vote.Inside {
				places[(index-1)%api.Slots]++
			}
		}
		for place := range api.Slots {
			if places[place] != 1 {
				t.Errorf("snapshot %d: %d slots of the place %d are inside", snap, places[place], place)
			}
		}
	}
}
