package slot_test

import (
	"bytes"
	"fmt"
	"math"
	"math/rand"
	"slices"
	"testing"

	"sexton/api"
	"sexton/frame"
	"sexton/slot"
)

const maxNumber = 1 << 40

// far holds the numbers that are farthest from all that are right, and some that are right in their lowest bits.
var far = []int{math.MinInt, math.MinInt + 1, math.MinInt + 3, -1 << 48, -1 << 40, -1<<32 + 1, -256, -255, math.MaxInt - 1, math.MaxInt, 1 << 62, 1<<48 - 1, 1 << 48, 1<<48 + 1, 1<<56 + 3}

var (
	rounds   = append([]int{-2, -1, 0, 1, 2, 3, 255, 256, 257, 1 << 16, 1<<32 - 1, 1 << 32, maxNumber - 1, maxNumber, maxNumber + 1, maxNumber + 2}, far...)
	replicas = append([]int{-2, -1, 0, 1, 2, 5, 6, 7, 8, 255, 256, 257, 262, 1<<16 + 1, 1<<32 + 6, maxNumber}, far...)
	names    = append([]int{-2, -1, 0, 1, 2, 3, 127, 128, 255, 256, 257, 1<<16 + 1, 1<<32 + 1, maxNumber}, far...)

	// Beside the states that there are: blank, good and bad, in this order.
	noStates = []uint8{3, 4, 127, 128, 129, 130, 254, 255}
)

var none api.Ballot

func ballot(round, replica int) api.Ballot { return api.Ballot{Round: round, Replica: replica} }

// stored returns an entry that no other index or ballot has.
func stored(i int, b api.Ballot) api.Entry {
	return api.Entry{Kind: api.EnOp, Client: 3, Seq: 1, Op: api.Op{Kind: api.OpPut, Key: "k", Value: fmt.Sprint(i, b.Round, b.Replica)}}
}

// of and naming are short for a good frame, and for a good record.
func of(i int, b api.Ballot) slot.Copy {
	return slot.Copy{State: frame.Good, Index: i, Ballot: b, Entry: stored(i, b)}
}

func naming(i int, b api.Ballot, which int) slot.Record {
	return slot.Record{State: frame.Good, Index: i, Ballot: b, Which: which}
}

var (
	blank, bad             = slot.Copy{State: frame.Blank}, slot.Copy{State: frame.Bad}
	blankRecord, badRecord = slot.Record{State: frame.Blank}, slot.Record{State: frame.Bad}
)

// answer is what What and Next return.
type answer struct {
	class  uint8
	report api.Report
	which  int
	next   int
}

// asked returns what is told of a slot.
func asked(p slot.Record, f [2]slot.Copy, i int) answer {
	class, r, which := slot.What(p, f, i)
	return answer{class, r, which, slot.Next(p, f, i)}
}

// compared, greatest, listed and following are the definitions of the document, told anew, item by item.
func compared(a, b api.Ballot) int {
	switch {
	case a.Round < b.Round, a.Round == b.Round && a.Replica < b.Replica:
		return -1
	case a == b:
		return 0
	}
	return 1
}

// greatest returns the one of some frames that has the greatest ballot; if two have it, the one that a record for the index names, and otherwise 0.
func greatest(p slot.Record, f [2]slot.Copy, i int, some []int) int {
	if len(some) == 1 {
		return some[0]
	}
	switch compared(f[0].Ballot, f[1].Ballot) {
	case 1:
		return 0
	case -1:
		return 1
	}
	if p.State == 1 && p.Index == i && p.Which == 1 {
		return 1
	}
	return 0
}

func listed(p slot.Record, f [2]slot.Copy, i int) (uint8, api.Report, int) {
	var isFor, isBad [2]bool
	var those []int
	isAbove := p.State == 1 && p.Index > i
	for k, c := range f {
		isFor[k] = c.State == 1 && c.Index == i
		isBad[k] = c.State != 0 && c.State != 1
		isAbove = isAbove || c.State == 1 && c.Index > i
		if isFor[k] {
			those = append(those, k)
		}
	}
	intact := func(some []int) (uint8, api.Report, int) {
		k := greatest(p, f, i, some)
		return 3, api.Report{Index: i, State: 2, Ballot: f[k].Ballot, Entry: f[k].Entry}, k
	}
	if p.State == 1 && p.Index == i {
		those = slices.DeleteFunc(those, func(k int) bool { return compared(f[k].Ballot, p.Ballot) < 0 })
		if len(those) > 0 {
			return intact(those)
		}
		return 2, api.Report{Index: i, State: 3, Ballot: p.Ballot}, -1
	}
	blind := api.Report{Index: i, State: 4}
	if isAbove {
		return 2, blind, -1
	}
	if p.State == 0 || p.State == 1 && p.Index < i {
		if len(those) > 0 {
			return intact(those)
		}
		if isBad[0] || isBad[1] {
			return 1, api.Report{Index: i, State: 1}, -1
		}
		return 0, api.Report{Index: i, State: 1}, -1
	}
	if isFor[0] && isFor[1] || isFor[0] && !isBad[1] || isFor[1] && !isBad[0] {
		return intact(those)
	}
	if !isFor[0] && !isFor[1] && !isBad[0] && !isBad[1] {
		return 0, api.Report{Index: i, State: 1}, -1
	}
	return 2, blind, -1
}

// following returns the frame that is overwritten next, given the one by which the slot is intact.
func following(p slot.Record, which int) int {
	switch {
	case which == 0:
		return 1
	case which == 1:
		return 0
	case p.State == 1 && p.Which == 0:
		return 1
	}
	// The record names frame 1, or none.
	return 0
}

// wantListed wants What and Next to be what the document says, and returns the class.
func wantListed(t *testing.T, p slot.Record, f [2]slot.Copy, i int) uint8 {
	t.Helper()
	class, r, which := listed(p, f, i)
	wanted := answer{class, r, which, following(p, which)}
	told := asked(p, f, i)
	if told != wanted {
		t.Fatalf("%v, %v for %d: %v; want %v", p, f, i, told, wanted)
	}
	if told.next != 0 && told.next != 1 || told.next == told.which { // P10.6
		t.Fatalf("%v, %v for %d: frame %d is next, intact by %d", p, f, i, told.next, told.which)
	}
	return class
}

// TestExamples asks for the chapter's examples.
func TestExamples(t *testing.T) { // P10.2
	b := ballot(2, 1)
	for n, c := range []struct {
		p      slot.Record
		f      [2]slot.Copy
		wanted answer
	}{
		{blankRecord, [2]slot.Copy{blank, blank}, answer{slot.Absent, api.Report{Index: 5, State: api.ReAbsent}, -1, 0}},
		{blankRecord, [2]slot.Copy{bad, blank}, answer{slot.Torn, api.Report{Index: 5, State: api.ReAbsent}, -1, 0}},
		{naming(5, b, 1), [2]slot.Copy{bad, of(5, b)}, answer{slot.Intact, api.Report{Index: 5, State: api.ReIntact, Ballot: b, Entry: stored(5, b)}, 1, 0}},
		{naming(5, b, 1), [2]slot.Copy{of(5, ballot(1, 0)), bad}, answer{slot.Corrupt, api.Report{Index: 5, State: api.ReLost, Ballot: b}, -1, 0}},
		{badRecord, [2]slot.Copy{of(5, b), bad}, answer{slot.Corrupt, api.Report{Index: 5, State: api.ReBlind}, -1, 0}},
		{naming(29, b, 1), [2]slot.Copy{blank, blank}, answer{slot.Corrupt, api.Report{Index: 5, State: api.ReBlind}, -1, 0}},
	} {
		if told := asked(c.p, c.f, 5); told != c.wanted {
			t.Errorf("%d: %v; want %v", n, told, c.wanted)
		}
	}
}

// TestClasses wants the classes to be numbered as the chapter lists them.
func TestClasses(t *testing.T) { // P10.2
	if l := []uint8{slot.Absent, slot.Torn, slot.Corrupt, slot.Intact}; !bytes.Equal(l, []byte{0, 1, 2, 3}) {
		t.Errorf("%v", l)
	}
}

// row is a slot of index 5, and what is wanted of it: the class, the report's state and ballot, the frame by which it is intact, and the next one.
type row struct {
	p      slot.Record
	a, b   slot.Copy
	class  uint8
	state  uint8
	ballot api.Ballot
	which  int
	next   int
}

func wantRows(t *testing.T, rows []row) {
	t.Helper()
	for n, c := range rows {
		f := [2]slot.Copy{c.a, c.b}
		wanted := answer{c.class, api.Report{Index: 5, State: c.state, Ballot: c.ballot}, c.which, c.next}
		if c.which >= 0 {
			wanted.report.Entry = f[c.which].Entry
		}
		if told := asked(c.p, f, 5); told != wanted {
			t.Errorf("%d: %v; want %v", n, told, wanted)
		}
		wantListed(t, c.p, f, 5)
	}
}

// TestRecordForTheIndex goes through the first item of the list.
func TestRecordForTheIndex(t *testing.T) { // P10.2, P10.3
	b := ballot(5, 3)
	lower, low, high, higher := ballot(4, 6), ballot(5, 2), ballot(5, 4), ballot(6, 0)
	// The lost ones: no frame is for the index, or with a lesser ballot.
	for _, c := range []slot.Copy{blank, bad, of(4, b), of(4, higher), of(29, b), of(29, higher), of(5, low), of(5, lower)} {
		for _, d := range []slot.Copy{blank, bad, of(4, higher), of(29, b), of(5, low), of(5, lower)} {
			wantRows(t, []row{
				{naming(5, b, 0), c, d, slot.Corrupt, api.ReLost, b, -1, 1},
				{naming(5, b, 1), c, d, slot.Corrupt, api.ReLost, b, -1, 0},
				{naming(5, b, 2), c, d, slot.Corrupt, api.ReLost, b, -1, 0},
				{naming(5, b, -1), c, d, slot.Corrupt, api.ReLost, b, -1, 0},
			})
		}
	}
	// A frame is good enough, whichever the record names, whatever the other one is.
	for _, x := range []api.Ballot{b, high, higher} {
		for _, d := range []slot.Copy{blank, bad, of(4, higher), of(29, higher), of(5, low), of(5, lower)} {
			for _, which := range []int{-1, 0, 1, 2} {
				wantRows(t, []row{
					{naming(5, b, which), of(5, x), d, slot.Intact, api.ReIntact, x, 0, 1},
					{naming(5, b, which), d, of(5, x), slot.Intact, api.ReIntact, x, 1, 0},
				})
			}
		}
	}
	// Both are: the greater ballot decides, and then the record.
	for _, which := range []int{-1, 0, 1, 2} {
		for _, x := range [][2]api.Ballot{{b, high}, {b, higher}, {high, higher}} {
			wantRows(t, []row{
				{naming(5, b, which), of(5, x[0]), of(5, x[1]), slot.Intact, api.ReIntact, x[1], 1, 0},
				{naming(5, b, which), of(5, x[1]), of(5, x[0]), slot.Intact, api.ReIntact, x[1], 0, 1},
			})
		}
	}
	for _, x := range []api.Ballot{b, high, higher} {
		wantRows(t, []row{
			{naming(5, b, 0), of(5, x), of(5, x), slot.Intact, api.ReIntact, x, 0, 1},
			{naming(5, b, 1), of(5, x), of(5, x), slot.Intact, api.ReIntact, x, 1, 0},
			{naming(5, b, 2), of(5, x), of(5, x), slot.Intact, api.ReIntact, x, 0, 1},
			{naming(5, b, -1), of(5, x), of(5, x), slot.Intact, api.ReIntact, x, 0, 1},
		})
	}
}

// TestGreaterIndices goes through the second item of the list.
func TestGreaterIndices(t *testing.T) { // P10.2, P10.3
	b := ballot(5, 3)
	for _, c := range []slot.Copy{blank, bad, of(4, b), of(5, b), of(6, b), of(29, b)} {
		for _, d := range []slot.Copy{of(6, b), of(29, b), of(29, ballot(1, 0))} {
			wantRows(t, []row{
				{blankRecord, c, d, slot.Corrupt, api.ReBlind, none, -1, 0},
				{blankRecord, d, c, slot.Corrupt, api.ReBlind, none, -1, 0},
				{badRecord, c, d, slot.Corrupt, api.ReBlind, none, -1, 0},
				{badRecord, d, c, slot.Corrupt, api.ReBlind, none, -1, 0},
				{naming(4, b, 0), c, d, slot.Corrupt, api.ReBlind, none, -1, 1},
				{naming(4, b, 1), d, c, slot.Corrupt, api.ReBlind, none, -1, 0},
			})
		}
		for _, d := range []slot.Copy{blank, bad, of(4, b), of(5, b), of(29, b)} {
			wantRows(t, []row{
				{naming(6, b, 0), c, d, slot.Corrupt, api.ReBlind, none, -1, 1},
				{naming(29, b, 1), c, d, slot.Corrupt, api.ReBlind, none, -1, 0},
				{naming(29, b, 2), c, d, slot.Corrupt, api.ReBlind, none, -1, 0},
			})
		}
	}
}

// TestSmallerIndicesAndBlank goes through the third item of the list.
func TestSmallerIndicesAndBlank(t *testing.T) { // P10.2, P10.3
	b, high := ballot(5, 3), ballot(5, 4)
	for _, r := range []struct {
		p    slot.Record
		next int
	}{{blankRecord, 0}, {naming(4, b, 0), 1}, {naming(4, b, 1), 0}, {naming(-19, high, 1), 0}, {naming(4, ballot(9, 0), 2), 0}} {
		wantRows(t, []row{
			{r.p, blank, blank, slot.Absent, api.ReAbsent, none, -1, r.next},
			{r.p, blank, of(4, b), slot.Absent, api.ReAbsent, none, -1, r.next},
			{r.p, of(4, b), blank, slot.Absent, api.ReAbsent, none, -1, r.next},
			{r.p, of(4, b), of(4, high), slot.Absent, api.ReAbsent, none, -1, r.next},
			{r.p, bad, blank, slot.Torn, api.ReAbsent, none, -1, r.next},
			{r.p, blank, bad, slot.Torn, api.ReAbsent, none, -1, r.next},
			{r.p, of(4, b), bad, slot.Torn, api.ReAbsent, none, -1, r.next},
			{r.p, bad, of(4, b), slot.Torn, api.ReAbsent, none, -1, r.next},
			{r.p, bad, bad, slot.Torn, api.ReAbsent, none, -1, r.next},
			{r.p, of(5, b), blank, slot.Intact, api.ReIntact, b, 0, 1},
			{r.p, of(5, b), bad, slot.Intact, api.ReIntact, b, 0, 1},
			{r.p, of(5, b), of(4, high), slot.Intact, api.ReIntact, b, 0, 1},
			{r.p, blank, of(5, b), slot.Intact, api.ReIntact, b, 1, 0},
			{r.p, bad, of(5, b), slot.Intact, api.ReIntact, b, 1, 0},
			{r.p, of(4, high), of(5, b), slot.Intact, api.ReIntact, b, 1, 0},
			{r.p, of(5, b), of(5, high), slot.Intact, api.ReIntact, high, 1, 0},
			{r.p, of(5, high), of(5, b), slot.Intact, api.ReIntact, high, 0, 1},
			{r.p, of(5, b), of(5, b), slot.Intact, api.ReIntact, b, 0, 1},
		})
	}
}

// TestBadRecord goes through the fourth item of the list.
func TestBadRecord(t *testing.T) { // P10.2, P10.3
	b, high := ballot(5, 3), ballot(5, 4)
	// What a bad record names is not consulted.
	for _, p := range []slot.Record{badRecord, {State: frame.Bad, Index: 5, Ballot: high, Which: 1}, {State: frame.Bad, Index: 4, Which: 1}, {State: frame.Bad, Index: 29}} {
		wantRows(t, []row{
			{p, of(5, b), of(5, high), slot.Intact, api.ReIntact, high, 1, 0},
			{p, of(5, high), of(5, b), slot.Intact, api.ReIntact, high, 0, 1},
			{p, of(5, b), of(5, b), slot.Intact, api.ReIntact, b, 0, 1},
			{p, of(5, b), blank, slot.Intact, api.ReIntact, b, 0, 1},
			{p, of(5, b), of(4, high), slot.Intact, api.ReIntact, b, 0, 1},
			{p, blank, of(5, b), slot.Intact, api.ReIntact, b, 1, 0},
			{p, of(4, high), of(5, b), slot.Intact, api.ReIntact, b, 1, 0},
			{p, blank, blank, slot.Absent, api.ReAbsent, none, -1, 0},
			{p, of(4, b), blank, slot.Absent, api.ReAbsent, none, -1, 0},
			{p, blank, of(4, b), slot.Absent, api.ReAbsent, none, -1, 0},
			{p, of(4, b), of(4, high), slot.Absent, api.ReAbsent, none, -1, 0},
			{p, of(5, b), bad, slot.Corrupt, api.ReBlind, none, -1, 0},
			{p, bad, of(5, b), slot.Corrupt, api.ReBlind, none, -1, 0},
			{p, of(4, b), bad, slot.Corrupt, api.ReBlind, none, -1, 0},
			{p, bad, of(4, b), slot.Corrupt, api.ReBlind, none, -1, 0},
			{p, blank, bad, slot.Corrupt, api.ReBlind, none, -1, 0},
			{p, bad, blank, slot.Corrupt, api.ReBlind, none, -1, 0},
			{p, bad, bad, slot.Corrupt, api.ReBlind, none, -1, 0},
		})
	}
}

// around returns indices, smaller and greater ones than i and i itself, without an overflow.
func around(i int) []int {
	l := []int{i}
	for _, n := range []int{1, 23, 24, 25} {
		if i >= math.MinInt+n {
			l = append(l, i-n)
		}
		if i <= math.MaxInt-n {
			l = append(l, i+n)
		}
	}
	return l
}

// someBallots returns ballots at, below and above 5 3, in the round and in the replica.
func someBallots() []api.Ballot {
	return []api.Ballot{ballot(5, 3), ballot(5, 2), ballot(5, 4), ballot(4, 4), ballot(4, 2), ballot(4, 3), ballot(6, 2), ballot(6, 3), ballot(6, 4)}
}

// someCopies returns what may be read of a frame of the slot of index i, and some that cannot.
func someCopies(i int) []slot.Copy {
	l := []slot.Copy{blank, bad, {State: 3}, {State: 255}}
	for _, b := range someBallots() {
		l = append(l, of(i, b))
	}
	for _, n := range around(i)[1:] {
		l = append(l, of(n, ballot(5, 3)), of(n, ballot(6, 3)))
	}
	return l
}

func someRecords(i int) []slot.Record {
	l := []slot.Record{blankRecord, badRecord, {State: 3}, {State: 255}}
	for _, n := range around(i) {
		for _, which := range []int{0, 1, -1, 2} {
			l = append(l, naming(n, ballot(5, 3), which))
		}
	}
	return l
}

// TestEachCombination asks for records and frames of all sorts, each beside each other one.
func TestEachCombination(t *testing.T) { // P10.2, P10.3, P10.6
	told := map[uint8]int{}
	for _, i := range []int{5, 1, 24, 25, 0, -1, 1 << 32, maxNumber, math.MinInt, math.MaxInt} {
		for _, p := range someRecords(i) {
			for _, a := range someCopies(i) {
				for _, b := range someCopies(i) {
					told[wantListed(t, p, [2]slot.Copy{a, b}, i)]++
				}
			}
		}
	}
	for class := range uint8(4) {
		if told[class] < 1000 {
			t.Errorf("%v", told)
		}
	}
}

// TestEachTwoBallots holds the ballots of a record and of two frames against each other, each number at the ends of its range and beyond them.
func TestEachTwoBallots(t *testing.T) { // P10.2, P10.3, P10.6
	var l []api.Ballot
	for _, round := range []int{math.MinInt, -1, 0, 1, 2, maxNumber, maxNumber + 1, math.MaxInt} {
		for _, replica := range []int{math.MinInt, -1, 0, 1, 6, 7, math.MaxInt} {
			l = append(l, ballot(round, replica))
		}
	}
	for _, x := range l {
		for _, y := range l {
			f := [2]slot.Copy{of(5, x), of(5, y)}
			for _, p := range []slot.Record{blankRecord, badRecord, naming(4, x, 0), naming(4, x, 1), naming(5, x, 0), naming(5, x, 1), naming(5, y, 0), naming(5, y, 1), naming(29, x, 1)} {
				wantListed(t, p, f, 5)
			}
			for _, p := range []slot.Record{naming(5, x, 0), naming(5, x, 1)} {
				for _, c := range []slot.Copy{blank, bad, of(4, x), of(29, x)} {
					wantListed(t, p, [2]slot.Copy{of(5, y), c}, 5)
					wantListed(t, p, [2]slot.Copy{c, of(5, y)}, 5)
				}
			}
		}
	}
}

// TestUnusedFields fills in the fields of records and frames that are not good: they are not consulted.
func TestUnusedFields(t *testing.T) { // P10.2, P10.3
	fullRecord := func(p slot.Record, i, which int) slot.Record {
		if p.State != frame.Good {
			p.Index, p.Ballot, p.Which = i, ballot(7, 5), which
		}
		return p
	}
	fullCopy := func(c slot.Copy, i int) slot.Copy {
		if c.State != frame.Good {
			c.Index, c.Ballot, c.Entry = i, ballot(8, 1), stored(i, ballot(8, 1))
		}
		return c
	}
	copies := []slot.Copy{blank, bad, {State: 3}, {State: 255}, of(5, ballot(5, 3)), of(5, ballot(5, 4)), of(4, ballot(5, 3)), of(29, ballot(5, 3))}
	for _, p := range []slot.Record{blankRecord, badRecord, {State: 3}, {State: 255}, naming(5, ballot(5, 3), 0), naming(5, ballot(5, 3), 1), naming(4, ballot(5, 3), 1), naming(29, ballot(5, 3), 0)} {
		for _, a := range copies {
			for _, b := range copies {
				wanted := asked(p, [2]slot.Copy{a, b}, 5)
				for _, i := range []int{4, 5, 6, 29} {
					for _, which := range []int{-1, 0, 1} {
						if told := asked(fullRecord(p, i, which), [2]slot.Copy{fullCopy(a, i), fullCopy(b, i)}, 5); told != wanted {
							t.Fatalf("%v, %v, %v filled with %d, %d: %v; want %v", p, a, b, i, which, told, wanted)
						}
					}
				}
			}
		}
	}
}

// TestNoStates wants what has a state that there is none of to be bad: neither blank nor good.
func TestNoStates(t *testing.T) { // P1, P10.2, P10.3
	for _, state := range noStates {
		for _, a := range someCopies(5) {
			for _, b := range []slot.Copy{blank, bad, of(5, ballot(5, 3)), of(4, ballot(5, 3)), of(29, ballot(5, 3))} {
				x, f := slot.Record{State: state}, [2]slot.Copy{a, b}
				if told, wanted := asked(x, f, 5), asked(badRecord, f, 5); told != wanted {
					t.Fatalf("a record of state %d, %v: %v; want %v", state, f, told, wanted)
				}
			}
			for _, p := range []slot.Record{blankRecord, badRecord, naming(5, ballot(5, 3), 1), naming(4, ballot(5, 3), 0), naming(29, ballot(5, 3), 1)} {
				x := slot.Copy{State: state}
				if told, wanted := asked(p, [2]slot.Copy{a, x}, 5), asked(p, [2]slot.Copy{a, bad}, 5); told != wanted {
					t.Fatalf("%v, %v, and a frame of state %d: %v; want %v", p, a, state, told, wanted)
				}
				if told, wanted := asked(p, [2]slot.Copy{x, a}, 5), asked(p, [2]slot.Copy{bad, a}, 5); told != wanted {
					t.Fatalf("%v, a frame of state %d, and %v: %v; want %v", p, state, a, told, wanted)
				}
			}
		}
	}
}

// TestNames asks for records that name frames that there are none of.
func TestNames(t *testing.T) { // P1, P10.2, P10.3
	for _, which := range names {
		if which == 0 || which == 1 {
			continue
		}
		for _, i := range []int{4, 5, 29} {
			for _, a := range someCopies(5) {
				for _, b := range someCopies(5) {
					f := [2]slot.Copy{a, b}
					wantListed(t, naming(i, ballot(5, 3), which), f, 5)
					if told := asked(naming(i, ballot(5, 3), which), f, 5); told.which == -1 && told.next != 0 {
						t.Fatalf("%d for %d, %v: frame %d is next", which, i, f, told.next)
					}
				}
			}
		}
	}
}

// TestZeroes asks for zero values, for any index.
func TestZeroes(t *testing.T) { // P1, P10.2
	for _, i := range append([]int{0, 1, -1, 24, maxNumber}, far...) {
		wanted := answer{slot.Absent, api.Report{Index: i, State: api.ReAbsent}, -1, 0}
		if told := asked(slot.Record{}, [2]slot.Copy{}, i); told != wanted {
			t.Errorf("%d: %v; want %v", i, told, wanted)
		}
	}
}

// TestEntries wants the entry of a frame to be told as it is, valid or not.
func TestEntries(t *testing.T) { // P10.2
	for _, e := range []api.Entry{{}, {Kind: api.EnNoop}, stored(5, ballot(1, 0)), {Kind: 255, Client: math.MinInt, Seq: math.MaxInt, Op: api.Op{Kind: 9, Key: "123456789", Old: "\xff\x00", Value: "v"}}} {
		for k := range 2 {
			var f [2]slot.Copy
			f[k] = slot.Copy{State: frame.Good, Index: 5, Ballot: ballot(1, 0), Entry: e}
			f[1-k] = of(4, ballot(9, 0))
			for _, p := range []slot.Record{blankRecord, badRecord, naming(4, ballot(9, 0), k), naming(5, ballot(1, 0), k)} {
				wanted := answer{slot.Intact, api.Report{Index: 5, State: api.ReIntact, Ballot: ballot(1, 0), Entry: e}, k, 1 - k}
				if told := asked(p, f, 5); told != wanted {
					t.Errorf("%v, %v: %v; want %v", p, f, told, wanted)
				}
			}
		}
	}
}

// randomNumber returns one of a few numbers for the most part, so that many are alike.
func randomNumber(r *rand.Rand) int {
	switch r.Intn(8) {
	case 0:
		return far[r.Intn(len(far))]
	case 1:
		return int(r.Uint64())
	}
	return r.Intn(5) - 1
}

func randomState(r *rand.Rand) uint8 {
	if r.Intn(8) == 0 {
		return uint8(r.Intn(256))
	}
	return uint8(r.Intn(3))
}

// TestRandomSlots asks for records and frames of which each field may be anything.
func TestRandomSlots(t *testing.T) { // P1, P10.2, P10.3, P10.6
	r := rand.New(rand.NewSource(10))
	told := map[uint8]int{}
	for range 300000 {
		var f [2]slot.Copy
		for k := range f {
			f[k] = slot.Copy{State: randomState(r), Index: randomNumber(r), Ballot: ballot(randomNumber(r), randomNumber(r))}
			f[k].Entry = stored(k, f[k].Ballot)
		}
		p := slot.Record{State: randomState(r), Index: randomNumber(r), Ballot: ballot(randomNumber(r), randomNumber(r)), Which: randomNumber(r)}
		told[wantListed(t, p, f, randomNumber(r))]++
	}
	for class := range uint8(4) {
		if told[class] < 1000 {
			t.Errorf("%v", told)
		}
	}
}

func TestArgumentsAreNotChanged(t *testing.T) { // 'Rules that hold everywhere'
	for _, p := range someRecords(5) {
		for _, a := range someCopies(5) {
			q, f := p, [2]slot.Copy{a, of(5, ballot(5, 3))}
			asked(p, f, 5)
			if p != q || f != [2]slot.Copy{a, of(5, ballot(5, 3))} {
				t.Fatalf("%v, %v became %v, %v", q, a, p, f)
			}
		}
	}
}
