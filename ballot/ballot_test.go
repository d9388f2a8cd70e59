package ballot_test

import (
	"math"
	"math/rand"
	"slices"
	"testing"

	"sexton/api"
	"sexton/ballot"
)

const most = 1 << 40

var none api.Ballot

// of is short for a ballot.
func of(round, replica int) api.Ballot { return api.Ballot{Round: round, Replica: replica} }

// The numbers that are tried, ascending; some of them are right in their lowest bits only.
var (
	rounds   = []int{math.MinInt, math.MinInt + 1, -1 << 40, -1<<32 + 1, -2, -1, 0, 1, 2, 3, 4, 5, 255, 256, 1<<32 - 1, 1 << 32, 1<<32 + 1, most - 2, most - 1, most, most + 1, most + 2, 1<<48 + 1, math.MaxInt - 1, math.MaxInt}
	replicas = []int{math.MinInt, math.MinInt + 1, math.MinInt + 2, -1 << 40, -1<<32 + 1, -256, -2, -1, 0, 1, 2, 3, 4, 5, 6, 7, 8, 255, 256, 258, 1 << 32, 1<<32 + 1, most, math.MaxInt - 1, math.MaxInt}
	sizes    = []int{math.MinInt, math.MinInt + 3, -1<<32 + 3, -253, -7, -5, -3, -2, -1, 0, 1, 2, 3, 4, 5, 6, 7, 8, 9, 11, 255, 257, 259, 261, 263, 1<<32 + 3, 1<<32 + 5, 1<<32 + 7, most, math.MaxInt - 1, math.MaxInt}
)

// ascending returns all ballots of these numbers, valid or not, each one less than the ones after it.
func ascending() []api.Ballot {
	var l []api.Ballot
	for _, round := range rounds {
		for _, replica := range replicas {
			l = append(l, of(round, replica))
		}
	}
	return l
}

// isSize and isBallot are the chapter's definitions, told anew.
func isSize(n int) bool { return slices.Contains([]int{3, 5, 7}, n) }

func isBallot(b api.Ballot, n int) bool {
	if b.Round == 0 && b.Replica == 0 {
		return true
	}
	return 1 <= b.Round && b.Round <= most && 0 <= b.Replica && b.Replica < n
}

// ballotsOf returns the valid ones among ascending(), for n replicas.
func ballotsOf(n int) []api.Ballot {
	return slices.DeleteFunc(ascending(), func(b api.Ballot) bool { return !isBallot(b, n) })
}

// nextOf returns the first ballot that is behind b when the replica's are gone through in their order, also beyond the last round.
func nextOf(b api.Ballot, replica int) api.Ballot {
	for round := max(1, b.Round-2); ; round++ {
		if round > b.Round || round == b.Round && replica > b.Replica {
			return of(round, replica)
		}
	}
}

func wantMax(t *testing.T, want api.Ballot, l ...api.Ballot) {
	t.Helper()
	if b := ballot.Max(l...); b != want {
		t.Errorf("Max(%v): %v; want %v", l, b, want)
	}
}

func wantNext(t *testing.T, b api.Ballot, replica, n int, want api.Ballot, wantErr api.Errno) {
	t.Helper()
	if x, e := ballot.Next(b, replica, n); x != want || e != wantErr {
		t.Errorf("Next(%v, %d, %d): %v, %d; want %v, %d", b, replica, n, x, e, want, wantErr)
	}
}

func TestExamples(t *testing.T) { // P14.1, P14.3
	for _, x := range []struct {
		a, b api.Ballot
		want bool
	}{{of(1, 2), of(2, 0), true}, {of(2, 0), of(1, 2), false}, {of(1, 0), of(1, 2), true}, {none, of(1, 0), true}} {
		if ballot.Less(x.a, x.b) != x.want {
			t.Errorf("Less(%v, %v): %t", x.a, x.b, !x.want)
		}
	}
	wantMax(t, of(2, 0), of(1, 2), of(2, 0), of(1, 0))
	wantMax(t, none)
	wantNext(t, none, 0, 3, of(1, 0), api.OK)
	wantNext(t, none, 2, 3, of(1, 2), api.OK)
	wantNext(t, of(4, 1), 2, 3, of(4, 2), api.OK)
	wantNext(t, of(4, 1), 1, 3, of(5, 1), api.OK)
	wantNext(t, of(4, 1), 0, 3, of(5, 0), api.OK)
	wantNext(t, none, 3, 3, none, api.ErrArg)
	wantNext(t, none, 0, 4, none, api.ErrArg)
	wantNext(t, of(1<<40, 1), 0, 3, none, api.ErrFull)
}

func TestLess(t *testing.T) { // P14.1, P14.4
	l := ascending()
	for i, a := range l {
		for k, b := range l {
			if ballot.Less(a, b) != (i < k) {
				t.Errorf("Less(%v, %v): %t", a, b, i >= k)
			}
		}
	}
}

func TestTotalOrder(t *testing.T) { // P14.4
	r := rand.New(rand.NewSource(1))
	pick := func() api.Ballot { return of(rounds[r.Intn(len(rounds))], replicas[r.Intn(len(replicas))]) }
	for range 100000 {
		a, b, c := pick(), pick(), pick()
		if r.Intn(2) == 0 {
			b.Round = a.Round
		}
		if r.Intn(2) == 0 {
			c.Round = b.Round
		}
		count := 0
		for _, holds := range []bool{ballot.Less(a, b), ballot.Less(b, a), a == b} {
			if holds {
				count++
			}
		}
		if count != 1 {
			t.Errorf("%v, %v: %d of less, greater and equal hold", a, b, count)
		}
		if ballot.Less(a, b) && ballot.Less(b, c) && !ballot.Less(a, c) {
			t.Errorf("%v, %v, %v: not transitive", a, b, c)
		}
	}
}

func TestMaxOfFew(t *testing.T) { // P14.1
	wantMax(t, none)
	wantMax(t, none, []api.Ballot(nil)...)
	wantMax(t, none, []api.Ballot{}...)
	l := ascending()
	for i, a := range l {
		wantMax(t, a, a)
		wantMax(t, a, a, a)
		wantMax(t, a, a, a, a)
		for k, b := range l {
			wantMax(t, l[max(i, k)], a, b)
		}
	}
}

func TestMaxAtEachPlace(t *testing.T) { // P14.1
	l := ascending()
	for count := 1; count <= 8; count++ {
		for from := 0; from+count <= len(l); from++ {
			greatest := l[from+count-1]
			for place := range count {
				others := slices.Clone(l[from : from+count-1])
				wantMax(t, greatest, slices.Insert(slices.Clone(others), place, greatest)...)
				slices.Reverse(others)
				wantMax(t, greatest, slices.Insert(others, place, greatest)...)
			}
		}
	}
}

// TestMaxInEachOrder holds lists in which ballots repeat, in each order of what they hold.
func TestMaxInEachOrder(t *testing.T) { // P14.1
	few := []api.Ballot{of(math.MinInt, math.MaxInt), of(-1, 5), of(0, -1), none, of(0, 3), of(1, 0), of(1, 2), of(2, 0), of(2, math.MaxInt), of(3, math.MinInt)}
	for a := range few {
		for b := range few {
			for c := range few {
				for d := range few {
					wantMax(t, few[max(a, b, c, d)], few[a], few[b], few[c], few[d])
				}
			}
		}
	}
}

func TestMaxOfMany(t *testing.T) { // P14.1
	r := rand.New(rand.NewSource(2))
	l := ascending()
	for range 1000 {
		var many []api.Ballot
		greatest := 0
		for range 1 + r.Intn(100) {
			i := r.Intn(len(l))
			many, greatest = append(many, l[i]), max(greatest, i)
		}
		wantMax(t, l[greatest], many...)
	}
	slices.Reverse(l)
	wantMax(t, l[0], l...)
}

func TestMaxKeepsItsArguments(t *testing.T) { // P14.1, rules that hold everywhere
	whole := []api.Ballot{of(2, 1), of(1, 2), of(3, 0), of(3, 0), none, of(9, 9), of(8, 8)}
	before := slices.Clone(whole)
	given := whole[:5]
	want := ballot.Max(given...)
	if want != of(3, 0) || !slices.Equal(whole, before) {
		t.Errorf("Max: %v; the list was %v, and is %v", want, before, whole)
	}
	clear(whole)
	wantMax(t, none, given...)
	whole[4] = of(1, 1)
	wantMax(t, of(1, 1), given...)
}

func TestMay(t *testing.T) { // P14.2
	for _, n := range sizes {
		for _, b := range ascending() {
			if want := isSize(n) && isBallot(b, n); ballot.May(b, n) != want {
				t.Errorf("May(%v, %d): %t", b, n, !want)
			}
		}
	}
}

// TestMayRows has the edges written out.
func TestMayRows(t *testing.T) { // P14.2
	for _, n := range []int{3, 5, 7} {
		for _, x := range []struct {
			b    api.Ballot
			want bool
		}{
			{none, true}, {of(0, 1), false}, {of(0, n-1), false}, {of(0, n), false}, {of(0, -1), false},
			{of(1, 0), true}, {of(1, n-1), true}, {of(1, n), false}, {of(1, -1), false},
			{of(most, 0), true}, {of(most, n-1), true}, {of(most, n), false}, {of(most, -1), false},
			{of(most+1, 0), false}, {of(most+1, n-1), false}, {of(-1, 0), false}, {of(-1, n-1), false},
		} {
			if ballot.May(x.b, n) != x.want {
				t.Errorf("May(%v, %d): %t", x.b, n, !x.want)
			}
		}
	}
	for _, n := range []int{-7, -5, -3, -1, 0, 1, 2, 4, 6, 8, 9, math.MinInt, math.MaxInt} {
		for _, b := range []api.Ballot{none, of(1, 0), of(most, 0), of(0, 1), of(most+1, 0)} {
			if ballot.May(b, n) {
				t.Errorf("May(%v, %d): true", b, n)
			}
		}
	}
}

func TestNext(t *testing.T) { // P14.3, P14.5
	for _, n := range []int{3, 5, 7} {
		for _, b := range ballotsOf(n) {
			for replica := range n {
				want, e := nextOf(b, replica), api.OK
				if want.Round > most {
					want, e = none, api.ErrFull
				}
				wantNext(t, b, replica, n, want, e)
			}
		}
	}
}

// TestNextRows has the edges written out: the replica that is asked for is less than the ballot's, the same, or greater.
func TestNextRows(t *testing.T) { // P14.3
	for _, x := range []struct {
		b          api.Ballot
		replica, n int
		want       api.Ballot
	}{
		{none, 0, 7, of(1, 0)}, {none, 1, 7, of(1, 1)}, {none, 6, 7, of(1, 6)},
		{of(1, 0), 0, 5, of(2, 0)}, {of(1, 0), 4, 5, of(1, 4)}, {of(1, 4), 0, 5, of(2, 0)}, {of(1, 4), 4, 5, of(2, 4)},
		{of(1, 2), 1, 5, of(2, 1)}, {of(1, 2), 2, 5, of(2, 2)}, {of(1, 2), 3, 5, of(1, 3)},
		{of(most-1, 2), 1, 3, of(most, 1)}, {of(most-1, 2), 2, 3, of(most, 2)}, {of(most-1, 0), 2, 3, of(most-1, 2)},
		{of(most, 0), 1, 3, of(most, 1)}, {of(most, 0), 2, 3, of(most, 2)}, {of(most, 1), 2, 3, of(most, 2)}, {of(most, 5), 6, 7, of(most, 6)},
	} {
		wantNext(t, x.b, x.replica, x.n, x.want, api.OK)
	}
	wantNext(t, of(most, 0), 0, 3, none, api.ErrFull)
	wantNext(t, of(most, 1), 0, 3, none, api.ErrFull)
	wantNext(t, of(most, 1), 1, 3, none, api.ErrFull)
	wantNext(t, of(most, 6), 5, 7, none, api.ErrFull)
	wantNext(t, of(most, 6), 6, 7, none, api.ErrFull)
}

func TestNextWrong(t *testing.T) { // P14.3
	l := ascending()
	for _, n := range sizes {
		for _, replica := range replicas {
			for _, b := range l {
				if !isSize(n) || replica < 0 || replica >= n || !isBallot(b, n) {
					wantNext(t, b, replica, n, none, api.ErrArg)
				}
			}
		}
	}
}

// TestNextWrongAndFull has what would be ErrFull as well, if it were not wrong.
func TestNextWrongAndFull(t *testing.T) { // P14.3
	last := of(most, 2)
	wantNext(t, last, 2, 3, none, api.ErrFull)
	for _, n := range []int{-3, 0, 1, 2, 4, 6, 8, math.MaxInt} {
		wantNext(t, last, 2, n, none, api.ErrArg)
	}
	for _, replica := range []int{math.MinInt, -1, 3, 4, math.MaxInt} {
		wantNext(t, last, replica, 3, none, api.ErrArg)
	}
	for _, b := range []api.Ballot{of(most, 3), of(most, -1), of(most+1, 2), of(most+1, 3), of(math.MaxInt, 2), of(math.MaxInt, math.MaxInt)} {
		wantNext(t, b, 2, 3, none, api.ErrArg)
	}
	wantNext(t, last, 3, 4, none, api.ErrArg)
	wantNext(t, of(math.MaxInt, math.MaxInt), math.MaxInt, math.MaxInt, none, api.ErrArg)
}

// TestNextIsNext asks the package's own calls: the next ballot is the replica's and greater, and no other is in between.
func TestNextIsNext(t *testing.T) { // P14.5
	for _, n := range []int{3, 5, 7} {
		for _, b := range ballotsOf(n) {
			for replica := range n {
				next, e := ballot.Next(b, replica, n)
				if e != api.OK {
					continue
				}
				if next == none || next.Replica != replica || !ballot.May(next, n) || !ballot.Less(b, next) {
					t.Errorf("Next(%v, %d, %d): %v", b, replica, n, next)
				}
				before := of(next.Round-1, replica)
				if before.Round > 0 && ballot.Less(b, before) {
					t.Errorf("Next(%v, %d, %d): %v, but %v is in between", b, replica, n, next, before)
				}
			}
		}
	}
}

func TestNextOfTwo(t *testing.T) { // P14.5
	l := ballotsOf(5)
	for _, a := range l {
		for _, b := range l {
			for one := range 5 {
				for other := range one {
					x, e := ballot.Next(a, one, 5)
					y, f := ballot.Next(b, other, 5)
					if e == api.OK && f == api.OK && x == y {
						t.Errorf("Next(%v, %d, 5) and Next(%v, %d, 5): %v", a, one, b, other, x)
					}
				}
			}
		}
	}
}

// TestTurns has replicas outdo each other: each ballot is greater than all before it, and the rounds do not leap.
func TestTurns(t *testing.T) { // P14.1, P14.3, P14.5
	r := rand.New(rand.NewSource(3))
	for _, n := range []int{3, 5, 7} {
		seen := []api.Ballot{none}
		for range 300 {
			last := seen[len(seen)-1]
			next, e := ballot.Next(ballot.Max(seen...), r.Intn(n), n)
			if e != api.OK || !ballot.Less(last, next) || next.Round > last.Round+1 {
				t.Fatalf("%v after %v, %d", next, last, e)
			}
			seen = append(seen, next)
			wantMax(t, next, seen...)
		}
	}
}

func TestLastRound(t *testing.T) { // P14.3
	for _, n := range []int{3, 5, 7} {
		b := of(most-1, n-1)
		for replica := range n {
			wantNext(t, b, replica, n, of(most, replica), api.OK)
			b = of(most, replica)
		}
		for replica := range n {
			wantNext(t, b, replica, n, none, api.ErrFull)
		}
	}
}
