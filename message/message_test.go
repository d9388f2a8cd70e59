package message_test

import (
	"bytes"
	"math"
	"slices"
	"testing"

	"sexton/api"
	"sexton/message"
)

// wantPrint wants a message to be what the definitions say, and its encoding to be read again. It tells whether the message is valid.
func wantPrint(t *testing.T, m api.Message, n int) bool {
	t.Helper()
	before := copied(m)
	valid := isMessage(m, n)
	if message.May(m, n) != valid {
		t.Fatalf("May of %+v for %d: %v", m, n, !valid)
	}
	b, e := message.Print(m, n)
	if !valid {
		if b != nil || e != api.ErrArg {
			t.Fatalf("Print of %+v for %d: %v, %d; want ErrArg", m, n, b, e)
		}
	} else if e != api.OK || !bytes.Equal(b, encoded(m)) {
		t.Fatalf("Print of %+v for %d: %v, %d; want %v", m, n, b, e, encoded(m))
	} else if x, e := message.Parse(b, n); e != api.OK || !equal(x, m) {
		t.Fatalf("Parse of %v for %d: %+v, %d; want %+v", b, n, x, e, m)
	}
	if !equal(m, before) {
		t.Fatalf("%+v has become %+v", before, m)
	}
	return valid
}

// wantParse wants bytes to be the message that the definitions say, or none, and that message to have them as its encoding. It tells whether they are one.
func wantParse(t *testing.T, b []byte, n int) bool {
	t.Helper()
	before := bytes.Clone(b)
	wanted, ok := decoded(b, n)
	m, e := message.Parse(b, n)
	if !ok {
		if e != api.ErrMessage || !equal(m, api.Message{}) {
			t.Fatalf("Parse of %v for %d: %+v, %d; want ErrMessage", b, n, m, e)
		}
	} else if e != api.OK || !equal(m, wanted) {
		t.Fatalf("Parse of %v for %d: %+v, %d; want %+v", b, n, m, e, wanted)
	} else if again, e := message.Print(m, n); e != api.OK || !bytes.Equal(again, b) {
		t.Fatalf("Print of %+v for %d: %v, %d; want %v", m, n, again, e, b)
	}
	if !bytes.Equal(b, before) {
		t.Fatalf("%v has become %v", before, b)
	}
	return ok
}

func TestExamples(t *testing.T) { // P20.1, P20.2
	for _, c := range []struct {
		m api.Message
		b []byte
	}{
		{api.Message{Kind: api.MsFetch, From: 0, To: 2, Index: 258}, []byte{10, 0, 2, 2, 1, 0, 0, 0, 0}},
		{api.Message{Kind: api.MsBeatBack, From: 1, To: 0, Ballot: api.Ballot{Round: 3, Replica: 2}, Nonce: 5}, []byte{9, 1, 0, 3, 0, 0, 0, 0, 0, 2, 5, 0, 0, 0, 0, 0}},
		{api.Message{Kind: api.MsRequest, From: -2, To: 0, Seq: 4, Op: api.Op{Kind: api.OpGet, Key: "k"}}, []byte{1, 129, 0, 4, 0, 0, 0, 0, 0, 1, 1, 107, 0, 0}},
	} {
		if b, e := message.Print(c.m, 3); e != api.OK || !bytes.Equal(b, c.b) || !message.May(c.m, 3) {
			t.Errorf("Print of %+v: %v, %d", c.m, b, e)
		}
		if m, e := message.Parse(c.b, 3); e != api.OK || !equal(m, c.m) {
			t.Errorf("Parse of %v: %+v, %d", c.b, m, e)
		}
	}
	for _, m := range []api.Message{
		{Kind: api.MsFetch, From: 0, To: 0, Index: 258},
		{Kind: api.MsFetch, From: 0, To: 3, Index: 258},
		{Kind: api.MsFetch, From: 0, To: 2, Index: 258, Nonce: 1},
	} {
		if b, e := message.Print(m, 3); e != api.ErrArg || b != nil || message.May(m, 3) {
			t.Errorf("Print of %+v: %v, %d", m, b, e)
		}
	}
}

// TestKinds names an encoding of each kind, byte by byte.
func TestKinds(t *testing.T) { // P20.2
	b := api.Ballot{Round: 258, Replica: 1}
	put := api.Entry{Kind: api.EnOp, Client: 2, Seq: 3, Op: api.Op{Kind: api.OpPut, Key: "k", Value: "vw"}}
	for _, c := range []struct {
		m api.Message
		b []byte
	}{
		{api.Message{Kind: api.MsRequest, From: -1, To: 2, Seq: 1 << 40, Op: api.Op{Kind: 77, Key: "a", Old: "bc", Value: "d"}}, []byte{1, 128, 2, 0, 0, 0, 0, 0, 1, 77, 1, 97, 2, 98, 99, 1, 100}},
		{api.Message{Kind: api.MsReply, From: 2, To: -4, Seq: 1, Reply: api.Reply{Err: 999, Found: true, Value: "v"}}, []byte{2, 2, 131, 1, 0, 0, 0, 0, 0, 231, 3, 1, 1, 118}},
		{api.Message{Kind: api.MsReply, From: 0, To: -3, Seq: 1}, []byte{2, 0, 130, 1, 0, 0, 0, 0, 0, 0, 0, 0, 0}},
		{api.Message{Kind: api.MsPrepare, From: 1, To: 0, Ballot: b, Index: 3}, []byte{3, 1, 0, 2, 1, 0, 0, 0, 0, 1, 3, 0, 0, 0, 0, 0}},
		{api.Message{Kind: api.MsPromise, From: 1, To: 0, Ballot: b, Index: 8, Commit: 9}, []byte{4, 1, 0, 2, 1, 0, 0, 0, 0, 1, 8, 0, 0, 0, 0, 0, 9, 0, 0, 0, 0, 0, 0}},
		{api.Message{Kind: api.MsPromise, From: 1, To: 0, Ballot: b, Reports: []api.Report{{Index: 1, State: api.ReLost, Ballot: b}, {Index: 256, State: api.ReBlind}, {Index: 257, State: api.ReIntact, Ballot: b, Entry: put}, {Index: 1 << 40, State: api.ReIntact, Ballot: b, Entry: api.Entry{Kind: api.EnNoop}}}}, []byte{
			4, 1, 0, 2, 1, 0, 0, 0, 0, 1, 0, 0, 0, 0, 0, 0, 0, 0, 0, 0, 0, 0, 4,
			1, 0, 0, 0, 0, 0, 3, 2, 1, 0, 0, 0, 0, 1,
			0, 1, 0, 0, 0, 0, 4,
			1, 1, 0, 0, 0, 0, 2, 2, 1, 0, 0, 0, 0, 1, 2, 2, 3, 0, 0, 0, 0, 0, 2, 1, 107, 0, 2, 118, 119,
			0, 0, 0, 0, 0, 1, 2, 2, 1, 0, 0, 0, 0, 1, 1,
		}},
		{api.Message{Kind: api.MsRefuse, From: 1, To: 2, Ballot: b}, []byte{5, 1, 2, 2, 1, 0, 0, 0, 0, 1}},
		{api.Message{Kind: api.MsAccept, From: 1, To: 0, Ballot: b, Index: 4, Commit: 3, Entry: put}, []byte{6, 1, 0, 2, 1, 0, 0, 0, 0, 1, 4, 0, 0, 0, 0, 0, 3, 0, 0, 0, 0, 0, 2, 2, 3, 0, 0, 0, 0, 0, 2, 1, 107, 0, 2, 118, 119}},
		{api.Message{Kind: api.MsAccepted, From: 0, To: 1, Ballot: b, Index: 4}, []byte{7, 0, 1, 2, 1, 0, 0, 0, 0, 1, 4, 0, 0, 0, 0, 0}},
		{api.Message{Kind: api.MsBeat, From: 1, To: 0, Ballot: b, Commit: 4, Nonce: 5}, []byte{8, 1, 0, 2, 1, 0, 0, 0, 0, 1, 4, 0, 0, 0, 0, 0, 5, 0, 0, 0, 0, 0}},
		{api.Message{Kind: api.MsBeatBack, From: 0, To: 1, Ballot: b, Nonce: 5}, []byte{9, 0, 1, 2, 1, 0, 0, 0, 0, 1, 5, 0, 0, 0, 0, 0}},
		{api.Message{Kind: api.MsFetch, From: 2, To: 1, Index: 1}, []byte{10, 2, 1, 1, 0, 0, 0, 0, 0}},
		{api.Message{Kind: api.MsChosen, From: 2, To: 1, Ballot: b, Index: 1, Entry: api.Entry{Kind: api.EnNoop}}, []byte{11, 2, 1, 2, 1, 0, 0, 0, 0, 1, 1, 0, 0, 0, 0, 0, 1}},
		{api.Message{Kind: api.MsFetchChunk, From: 2, To: 1, Index: 8, Chunk: 7}, []byte{12, 2, 1, 8, 0, 0, 0, 0, 0, 7}},
		{api.Message{Kind: api.MsChunk, From: 2, To: 1, Index: 8, Chunk: 6, Count: 7, Bytes: []byte{5, 0, 255}}, []byte{13, 2, 1, 8, 0, 0, 0, 0, 0, 6, 7, 3, 5, 0, 255}},
		{api.Message{Kind: api.MsMend, From: 2, To: 1, Index: 513}, []byte{14, 2, 1, 1, 2, 0, 0, 0, 0}},
		{api.Message{Kind: api.MsMendChunk, From: 2, To: 1, Index: 0, Chunk: 0}, []byte{15, 2, 1, 0, 0, 0, 0, 0, 0, 0}},
	} {
		for _, n := range []int{3, 5, 7} {
			if b, e := message.Print(c.m, n); e != api.OK || !bytes.Equal(b, c.b) {
				t.Errorf("Print of %+v for %d: %v, %d; want %v", c.m, n, b, e, c.b)
			}
			if m, e := message.Parse(c.b, n); e != api.OK || !equal(m, c.m) {
				t.Errorf("Parse of %v for %d: %+v, %d; want %+v", c.b, n, m, e, c.m)
			}
		}
	}
}

// TestSome holds each kind, with the least, the greatest and other values of its fields, for each number of replicas, right or wrong.
func TestSome(t *testing.T) { // P20.1, P20.2, P20.3, P20.6
	for _, n := range []int{3, 5, 7} {
		for _, m := range some(n) {
			for _, other := range sizes {
				valid := wantPrint(t, m, other)
				if other == n && !valid {
					t.Fatalf("%+v is not valid for %d", m, n)
				}
				wantParse(t, encoded(m), other)
			}
		}
	}
}

// TestFields sets each field of each kind to each value, right or wrong, also those that the kind does not have.
func TestFields(t *testing.T) { // P20.1, P20.2, P20.3, P20.5
	for field, l := range changes() {
		right, wrong := 0, 0
		for _, m := range some(5) {
			for _, set := range l {
				x := copied(m)
				set(&x)
				for _, n := range []int{3, 5, 7} {
					if wantPrint(t, x, n) {
						right++
					} else {
						wrong++
					}
				}
			}
		}
		if right == 0 || wrong == 0 {
			t.Errorf("%s: %d right, %d wrong", field, right, wrong)
		}
	}
}

// TestOthers gives each kind each field that it does not have, and each part of one, with the least value that is not zero.
func TestOthers(t *testing.T) { // P20.5
	for _, n := range []int{3, 5, 7} {
		for _, m := range some(n) {
			refused := 0
			for part, set := range parts() {
				x := copied(only(api.Message{Kind: m.Kind}))
				set(&x)
				if equal(x, only(x)) {
					continue // the kind has this one
				}
				refused++
				x = copied(m)
				set(&x)
				if b, e := message.Print(x, n); e != api.ErrArg || b != nil || message.May(x, n) {
					t.Errorf("kind %d with %s: %v, %d", m.Kind, part, b, e)
				}
			}
			own := 2
			for _, name := range has(m.Kind) {
				own += max(1, map[string]int{"ballot": 2, "entry": 7, "op": 4, "reply": 3}[name])
			}
			if refused != len(parts())-own {
				t.Errorf("kind %d: %d parts refused, %d its own", m.Kind, refused, own)
			}
			x := copied(m)
			x.Reports, x.Bytes = append([]api.Report{}, x.Reports...), append([]byte{}, x.Bytes...)
			if !message.May(x, n) {
				t.Errorf("kind %d with empty lists that are not nil", m.Kind)
			}
		}
	}
}

// TestParties sends each kind from everyone to everyone.
func TestParties(t *testing.T) { // P20.1, P20.2, P20.6
	counts := map[byte]map[int]int{'c': {}, 'r': {}}
	for kind := uint8(1); kind <= 15; kind++ {
		m := least(kind)
		for _, m.From = range parties {
			for _, m.To = range parties {
				for _, n := range sizes {
					if wantPrint(t, m, n) {
						counts[min(shapes[kind].from, shapes[kind].to)][n]++
					}
				}
			}
		}
	}
	for _, n := range []int{3, 5, 7} {
		if counts['c'][n] != 2*4*n || counts['r'][n] != 13*n*(n-1) {
			t.Errorf("for %d: %d, %d", n, counts['c'][n], counts['r'][n])
		}
	}
	if len(counts['c']) != 3 || len(counts['r']) != 3 {
		t.Errorf("%v", counts)
	}
}

// TestPartyBytes reads each kind from each byte to some, and from some to each.
func TestPartyBytes(t *testing.T) { // P20.2
	for kind := uint8(1); kind <= 15; kind++ {
		b := encoded(least(kind))
		for _, n := range []int{3, 5, 7, 4} {
			for x := range 256 {
				for _, y := range []byte{0, 1, 2, 3, 4, 5, 6, 7, 127, 128, 131, 132, 255} {
					b[1], b[2] = byte(x), y
					wantParse(t, b, n)
					b[1], b[2] = y, byte(x)
					wantParse(t, b, n)
				}
			}
		}
	}
}

// TestChunks holds each chunk against each count.
func TestChunks(t *testing.T) { // P20.1
	right := 0
	m := least(api.MsChunk)
	for _, m.Chunk = range numbers {
		for _, m.Count = range numbers {
			wantPrint(t, m, 3)
		}
	}
	for m.Chunk = -2; m.Chunk <= 10; m.Chunk++ {
		for m.Count = -2; m.Count <= 10; m.Count++ {
			if wantPrint(t, m, 7) {
				right++
			}
		}
	}
	if right != 8+7+6+5+4+3+2+1 {
		t.Errorf("%d pairs", right)
	}
	m.Chunk, m.Count = math.MaxInt, math.MinInt
	wantPrint(t, m, 3)
}

// TestKindBytes reads each kind that a byte can tell, before the rest of each encoding.
func TestKindBytes(t *testing.T) { // P20.2
	for _, m := range some(3) {
		b := encoded(m)
		for kind := range 256 {
			b[0] = byte(kind)
			wantParse(t, b, 3)
			m.Kind = b[0]
			wantPrint(t, m, 3)
		}
	}
}

// TestCut reads each encoding without its last bytes, and with more of them.
func TestCut(t *testing.T) { // P20.2, P20.4
	for _, n := range []int{3, 5, 7} {
		for _, m := range some(n) {
			b := encoded(m)
			for i := range b {
				if wantParse(t, b[:i], n) {
					t.Fatalf("%v: a message after %d bytes", b, i)
				}
				wantParse(t, b[i:], n)
			}
			for x := range 256 {
				if wantParse(t, append(bytes.Clone(b), byte(x)), n) {
					t.Fatalf("%v, %d: a message", b, x)
				}
			}
			for _, more := range [][]byte{{0, 0}, {1, 2, 3}, make([]byte, 300), anyBytes, b} {
				if wantParse(t, slices.Concat(b, more), n) {
					t.Fatalf("%v, %v: a message", b, more)
				}
			}
		}
	}
	wantParse(t, nil, 3)
	wantParse(t, []byte{}, 7)
}

// TestTurned reads each encoding with one byte changed, to each other value; the longest ones, which say the same over and over, with one bit of it turned, or all of them.
func TestTurned(t *testing.T) { // P20.2, P20.3
	for _, n := range []int{3, 7} {
		for _, m := range some(n) {
			b := encoded(m)
			for i := range b {
				was := b[i]
				for x := range 256 {
					if len(b) > 400 && x&(x-1) != 0 && x != 255 {
						continue
					}
					b[i] = was ^ byte(x)
					if !wantParse(t, b, n) && x == 0 {
						t.Fatalf("%v: no message", b)
					}
				}
				b[i] = was
			}
		}
	}
}

// TestWrongBytes reads what is almost an encoding.
func TestWrongBytes(t *testing.T) { // P20.2
	fetch := []byte{10, 0, 2}
	reply := []byte{2, 1, 131, 4, 0, 0, 0, 0, 0}
	promise := []byte{4, 1, 0, 2, 1, 0, 0, 0, 0, 1, 0, 0, 0, 0, 0, 0, 0, 0, 0, 0, 0, 0}
	blind := func(index byte) []byte { return []byte{index, 0, 0, 0, 0, 0, 4} }
	for _, c := range []struct {
		why string
		b   []byte
	}{
		{"an index of 0", append(fetch, 0, 0, 0, 0, 0, 0)},
		{"an index of 2^40 + 1", append(fetch, 1, 0, 0, 0, 0, 1)},
		{"an index of 2^48 - 1", append(fetch, 255, 255, 255, 255, 255, 255)},
		{"a Found of 2", append(reply, 14, 1, 2, 1, 118)},
		{"a Found of 255", append(reply, 14, 1, 255, 1, 118)},
		{"an Err of 1000", append(reply, 232, 3, 1, 1, 118)},
		{"an Err of 65535", append(reply, 255, 255, 1, 1, 118)},
		{"a value of 17 bytes", append(reply, append([]byte{14, 1, 1, 17}, make([]byte, 17)...)...)},
		{"a value that ends too soon", append(reply, 14, 1, 1, 2, 118)},
		{"25 reports", slices.Concat(promise, []byte{25}, reportsBytes(blinds(25))[1:])},
		{"255 reports, but only one", slices.Concat(promise, []byte{255}, blind(1))},
		{"two reports of the same index", slices.Concat(promise, []byte{2}, blind(7), blind(7))},
		{"descending ones", slices.Concat(promise, []byte{2}, blind(7), blind(6))},
		{"one of index 0", slices.Concat(promise, []byte{1}, blind(0))},
		{"an absent one", slices.Concat(promise, []byte{1}, []byte{1, 0, 0, 0, 0, 0, 1})},
		{"an absent one with a ballot", slices.Concat(promise, []byte{1}, []byte{1, 0, 0, 0, 0, 0, 1, 1, 0, 0, 0, 0, 0, 0})},
		{"one of state 5", slices.Concat(promise, []byte{1}, []byte{1, 0, 0, 0, 0, 0, 5})},
		{"a blind one with a ballot", slices.Concat(promise, []byte{1}, blind(1), []byte{1, 0, 0, 0, 0, 0, 0})},
		{"a lost one with an entry", slices.Concat(promise, []byte{1}, []byte{1, 0, 0, 0, 0, 0, 3, 1, 0, 0, 0, 0, 0, 0, 1})},
		{"a lost one with no ballot", slices.Concat(promise, []byte{1}, []byte{1, 0, 0, 0, 0, 0, 3, 0, 0, 0, 0, 0, 0, 0})},
		{"an intact one with a get", slices.Concat(promise, []byte{1}, []byte{1, 0, 0, 0, 0, 0, 2, 1, 0, 0, 0, 0, 0, 0, 2, 0, 1, 0, 0, 0, 0, 0, 1, 1, 107, 0, 0})},
		{"a round of 0", []byte{5, 1, 2, 0, 0, 0, 0, 0, 0, 1}},
		{"no ballot", []byte{5, 1, 2, 0, 0, 0, 0, 0, 0, 0}},
		{"a replica that there is not", []byte{5, 1, 2, 1, 0, 0, 0, 0, 0, 3}},
		{"a count that is the chunk", []byte{13, 2, 1, 8, 0, 0, 0, 0, 0, 6, 6, 1, 5}},
		{"a count of 9", []byte{13, 2, 1, 8, 0, 0, 0, 0, 0, 6, 9, 1, 5}},
		{"no bytes", []byte{13, 2, 1, 8, 0, 0, 0, 0, 0, 6, 7, 0}},
		{"81 bytes", append([]byte{13, 2, 1, 8, 0, 0, 0, 0, 0, 6, 7, 81}, make([]byte, 81)...)},
		{"a kind of 0", []byte{0, 0, 1}},
		{"a kind of 0 alone", []byte{0}},
		{"a kind of 16", []byte{16, 0, 1}},
		{"a kind of 16 alone", []byte{16}},
	} {
		if m, e := message.Parse(c.b, 3); e != api.ErrMessage || !equal(m, api.Message{}) {
			t.Errorf("%s: %+v, %d", c.why, m, e)
		}
		wantParse(t, c.b, 3)
	}
}

// blinds returns reports on the slots from 1 to n, all of them blind.
func blinds(n int) []api.Report {
	var l []api.Report
	for i := range n {
		l = append(l, api.Report{Index: i + 1, State: 4})
	}
	return l
}

// TestSame holds each message against each change of it, and each two changes of a field against each other.
func TestSame(t *testing.T) { // P20.1
	wantSame := func(a, b api.Message) {
		t.Helper()
		if got := message.Same(a, b); got != equal(a, b) || got != message.Same(b, a) {
			t.Fatalf("Same of %+v and %+v: %v", a, b, got)
		}
	}
	all := changes()
	for _, m := range append(some(3), api.Message{}) {
		for _, l := range all {
			for _, set := range l {
				x := copied(m)
				set(&x)
				wantSame(m, x)
				wantSame(x, copied(x))
			}
		}
		for part, set := range parts() {
			x, y := copied(m), api.Message{}
			set(&x)
			set(&y)
			wantSame(m, x)
			wantSame(y, x)
			if message.Same(y, api.Message{}) {
				t.Errorf("Same does not see %s", part)
			}
		}
	}
	for _, field := range []string{"Ballot", "Index", "Commit", "Nonce", "Chunk", "Count", "Seq", "Reply", "Bytes", "From", "To", "Kind"} {
		for _, a := range all[field] {
			for _, b := range all[field] {
				var x, y api.Message
				a(&x)
				b(&y)
				wantSame(x, y)
			}
		}
	}
	if !message.Same(api.Message{Reports: []api.Report{}, Bytes: []byte{}}, api.Message{}) {
		t.Error("empty lists are not the same as nil")
	}
}

// TestSameReports holds lists of reports against each other: each part of each report counts, and the order too.
func TestSameReports(t *testing.T) { // P20.1
	l := run(1, 1, 4)
	m := api.Message{Reports: l}
	for i := range l {
		for _, set := range []func(r *api.Report){
			func(r *api.Report) { r.Index++ },
			func(r *api.Report) { r.State++ },
			func(r *api.Report) { r.Ballot.Round++ },
			func(r *api.Report) { r.Ballot.Replica++ },
			func(r *api.Report) { r.Entry.Kind++ },
			func(r *api.Report) { r.Entry.Client++ },
			func(r *api.Report) { r.Entry.Seq++ },
			func(r *api.Report) { r.Entry.Op.Kind++ },
			func(r *api.Report) { r.Entry.Op.Key += "k" },
			func(r *api.Report) { r.Entry.Op.Old += "\x00" },
			func(r *api.Report) { r.Entry.Op.Value += "v" },
		} {
			x := copied(m)
			set(&x.Reports[i])
			if message.Same(m, x) || message.Same(x, m) {
				t.Errorf("%v and %v are the same", m.Reports, x.Reports)
			}
		}
		if x := (api.Message{Reports: l[:i]}); message.Same(m, x) || message.Same(x, m) {
			t.Errorf("%v and %v are the same", m.Reports, x.Reports)
		}
	}
	if message.Same(m, api.Message{Reports: []api.Report{l[1], l[0], l[2], l[3]}}) {
		t.Error("the order does not count")
	}
	if !message.Same(m, copied(m)) {
		t.Error("a copy is not the same")
	}
}

// TestMemory changes what came in and what came out, and wants nothing else to change.
func TestMemory(t *testing.T) { // P20.1, P20.2
	for _, m := range some(3) {
		before := copied(m)
		b, _ := message.Print(m, 3)
		again, _ := message.Print(m, 3)
		for i := range b {
			b[i]++
		}
		if !bytes.Equal(again, encoded(m)) || !equal(m, before) {
			t.Fatalf("the encoding of %+v shares its memory", before)
		}
		x, _ := message.Parse(again, 3)
		y, _ := message.Parse(again, 3)
		for i := range again {
			again[i]++
		}
		if !equal(x, before) || !equal(y, before) {
			t.Fatalf("%+v shares memory with the bytes", before)
		}
		for i := range x.Bytes {
			x.Bytes[i]++
		}
		for i := range x.Reports {
			x.Reports[i].Index++
		}
		if !equal(y, before) {
			t.Fatalf("%+v shares memory with another one", before)
		}
	}
	spare := append(make([]byte, 0, 200), 13, 2, 1, 8, 0, 0, 0, 0, 0, 6, 7, 3, 5, 6, 7)
	m, _ := message.Parse(spare, 3)
	_ = append(m.Bytes, 99)
	b, _ := message.Print(m, 3)
	_ = append(b, 98)
	if x := spare[:16]; x[15] != 0 || !bytes.Equal(b, spare) {
		t.Errorf("%v, %v", x, b)
	}
}
