package slot_test

import (
	"bytes"
	"fmt"
	"math/rand"
	"slices"
	"testing"

	"sexton/api"
	"sexton/frame"
	"sexton/slot"
	"sexton/tag"
)

// isRecord, body and parsed are the chapter's definitions, told anew.
func isRecord(b api.Ballot, which int) bool {
	return b.Round >= 1 && b.Round <= maxNumber && b.Replica >= 0 && b.Replica <= 6 && (which == 0 || which == 1)
}

// body returns the lowest bytes of the numbers, whatever these are.
func body(b api.Ballot, which int) []byte {
	return []byte{byte(b.Round), byte(b.Round >> 8), byte(b.Round >> 16), byte(b.Round >> 24), byte(b.Round >> 32), byte(b.Round >> 40), byte(b.Replica), byte(which)}
}

func parsed(body []byte) (api.Ballot, int, bool) {
	if len(body) != 8 {
		return none, 0, false
	}
	round := 0
	for _, x := range slices.Backward(body[:6]) {
		round = round<<8 | int(x)
	}
	b, which := ballot(round, int(body[6])), int(body[7])
	if !isRecord(b, which) {
		return none, 0, false
	}
	return b, which, true
}

// wantPrint wants Print to return what the chapter says, and that to be parsed again; it returns whether there is such a body.
func wantPrint(t *testing.T, b api.Ballot, which int) bool {
	t.Helper()
	p, e := slot.Print(b, which)
	if !isRecord(b, which) {
		if p != nil || e != api.ErrArg {
			t.Fatalf("Print of %v, %d: %v, %d; want ErrArg", b, which, p, e)
		}
		return false
	}
	if e != api.OK || !bytes.Equal(p, body(b, which)) {
		t.Fatalf("Print of %v, %d: %v, %d; want %v", b, which, p, e, body(b, which))
	}
	if x, k, e := slot.Parse(p); x != b || k != which || e != api.OK {
		t.Fatalf("Parse of %v: %v, %d, %d; want %v, %d", p, x, k, e, b, which)
	}
	return true
}

// wantParse wants Parse to return what the chapter says, and that to be printed as the same bytes; it returns the error.
func wantParse(t *testing.T, p []byte) api.Errno {
	t.Helper()
	b, which, ok := parsed(p)
	wanted := api.ErrEntry
	if ok {
		wanted = api.OK
	}
	x, k, e := slot.Parse(p)
	if x != b || k != which || e != wanted {
		t.Fatalf("Parse of %v: %v, %d, %d; want %v, %d, %d", p, x, k, e, b, which, wanted)
	}
	if ok {
		if again, e := slot.Print(x, k); e != api.OK || !bytes.Equal(again, p) {
			t.Fatalf("Print of %v, %d: %v, %d; want %v", x, k, again, e, p)
		}
	}
	return e
}

func wantErrno(t *testing.T, call string, e, wanted api.Errno) {
	t.Helper()
	if e != wanted {
		t.Errorf("%s: %d; want %d", call, e, wanted)
	}
}

// someBodies returns bodies of valid ballots at their ends and within them.
func someBodies() [][]byte {
	var l [][]byte
	for _, round := range []int{1, 2, 255, 256, 258, 1 << 32, maxNumber - 1, maxNumber} {
		for _, replica := range []int{0, 1, 5, 6} {
			l = append(l, body(ballot(round, replica), 0), body(ballot(round, replica), 1))
		}
	}
	return l
}

func TestPrint(t *testing.T) { // P10.1
	for _, c := range []struct {
		b      api.Ballot
		which  int
		wanted []byte
	}{
		{ballot(1, 0), 0, []byte{1, 0, 0, 0, 0, 0, 0, 0}},
		{ballot(1, 0), 1, []byte{1, 0, 0, 0, 0, 0, 0, 1}},
		{ballot(258, 6), 1, []byte{2, 1, 0, 0, 0, 0, 6, 1}},
		{ballot(0x0605040302, 2), 0, []byte{2, 3, 4, 5, 6, 0, 2, 0}},
		{ballot(maxNumber, 6), 1, []byte{0, 0, 0, 0, 0, 1, 6, 1}},
		{ballot(maxNumber-1, 5), 0, []byte{255, 255, 255, 255, 255, 0, 5, 0}},
	} {
		if p, e := slot.Print(c.b, c.which); e != api.OK || !bytes.Equal(p, c.wanted) {
			t.Errorf("Print of %v, %d: %v, %d; want %v", c.b, c.which, p, e, c.wanted)
		}
		if b, which, e := slot.Parse(c.wanted); b != c.b || which != c.which || e != api.OK {
			t.Errorf("Parse of %v: %v, %d, %d; want %v, %d", c.wanted, b, which, e, c.b, c.which)
		}
	}
	for _, c := range []struct {
		b     api.Ballot
		which int
	}{{none, 0}, {ballot(0, 1), 0}, {ballot(-1, 0), 0}, {ballot(maxNumber+1, 0), 0}, {ballot(1, -1), 0}, {ballot(1, 7), 0}, {ballot(1, 0), -1}, {ballot(1, 0), 2}, {none, 2}} {
		if p, e := slot.Print(c.b, c.which); p != nil || e != api.ErrArg {
			t.Errorf("Print of %v, %d: %v, %d; want ErrArg", c.b, c.which, p, e)
		}
	}
}

// TestNumbers prints each number at its bounds and beyond them, and parses what their bytes are then.
func TestNumbers(t *testing.T) { // P1, P10.1
	right, wrong := 0, 0
	for _, round := range rounds {
		for _, replica := range replicas {
			for _, which := range names {
				if wantPrint(t, ballot(round, replica), which) {
					right++
				} else {
					wrong++
				}
				wantParse(t, body(ballot(round, replica), which))
			}
		}
	}
	// 11 of the rounds, 5 of the replicas, and 2 of the names.
	if right != 11*5*2 || wrong < 10000 {
		t.Errorf("%d right ones, %d wrong ones", right, wrong)
	}
}

// TestEachByte parses bodies with each byte as each number.
func TestEachByte(t *testing.T) { // P10.1
	told := map[api.Errno]int{}
	for _, p := range someBodies() {
		for at := range p {
			for x := range 256 {
				c := bytes.Clone(p)
				c[at] = byte(x)
				told[wantParse(t, c)]++
			}
		}
	}
	if len(told) != 2 || told[api.OK] < 5000 || told[api.ErrEntry] < 5000 {
		t.Errorf("%v", told)
	}
	for _, p := range [][]byte{{0, 0, 0, 0, 0, 0, 0, 0}, {0, 0, 0, 0, 0, 0, 3, 1}, {1, 0, 0, 0, 0, 1, 0, 0}, {0, 0, 0, 0, 0, 2, 0, 0}, {1, 0, 0, 0, 0, 0, 7, 0}, {1, 0, 0, 0, 0, 0, 255, 0}, {1, 0, 0, 0, 0, 0, 0, 2}, {1, 0, 0, 0, 0, 0, 0, 255}} {
		wantErrno(t, fmt.Sprintf("Parse of %v", p), wantParse(t, p), api.ErrEntry)
	}
}

// TestLengths parses bodies that lack bytes, or have some more.
func TestLengths(t *testing.T) { // P1, P10.1
	wantErrno(t, "Parse of nil", wantParse(t, nil), api.ErrEntry)
	wantErrno(t, "Parse of nothing", wantParse(t, []byte{}), api.ErrEntry)
	for _, p := range someBodies() {
		wantErrno(t, "Parse", wantParse(t, p), api.OK)
		wantErrno(t, "Parse of bytes with more capacity", wantParse(t, append(bytes.Clone(p), 1, 0)[:8]), api.OK)
		for n := range p {
			wantErrno(t, "Parse of the first bytes", wantParse(t, p[:n]), api.ErrEntry)
			wantErrno(t, "Parse of the first bytes, cut off", wantParse(t, p[:n:n]), api.ErrEntry)
			wantErrno(t, "Parse without the first bytes", wantParse(t, p[n+1:]), api.ErrEntry)
			wantErrno(t, "Parse without a byte", wantParse(t, slices.Delete(bytes.Clone(p), n, n+1)), api.ErrEntry)
		}
		for _, y := range []byte{0, 1, 2, 255} {
			for _, n := range []int{1, 2, 6, 8, 56, 300} {
				wantErrno(t, "Parse with more bytes", wantParse(t, slices.Concat(p, bytes.Repeat([]byte{y}, n))), api.ErrEntry)
				wantErrno(t, "Parse with bytes before", wantParse(t, slices.Concat(bytes.Repeat([]byte{y}, n), p)), api.ErrEntry)
			}
		}
		wantErrno(t, "Parse of two bodies", wantParse(t, slices.Concat(p, p)), api.ErrEntry)
	}
}

// TestRandomBytes parses bytes that look like bodies more or less.
func TestRandomBytes(t *testing.T) { // P1, P10.1
	r := rand.New(rand.NewSource(11))
	told := map[api.Errno]int{}
	for range 200000 {
		p := make([]byte, 7+r.Intn(3))
		for i := range p {
			if p[i] = byte(r.Intn(3)); r.Intn(10) == 0 {
				p[i] = byte(r.Intn(256))
			}
		}
		told[wantParse(t, p)]++
	}
	if len(told) != 2 || told[api.OK] < 1000 {
		t.Errorf("%v", told)
	}
}

// TestBodyInAFrame wants each body to fit in the one sector of a record.
func TestBodyInAFrame(t *testing.T) { // P10.1
	for _, p := range someBodies() {
		x := tag.Tag{Region: 3, Place: 4, Index: 5, Incarnation: 1}
		b, e := frame.Seal(x, p, 1)
		if e != api.OK {
			t.Fatalf("Seal of %v: %d", p, e)
		}
		_, _, again := frame.Mine(b, 0, 3, 4)
		wantErrno(t, "Parse of what a frame holds", wantParse(t, again), api.OK)
	}
}

func TestResultsShareNoMemory(t *testing.T) { // 'Rules that hold everywhere'
	for range 2 {
		p, _ := slot.Print(ballot(258, 6), 1)
		if !bytes.Equal(p, body(ballot(258, 6), 1)) {
			t.Fatalf("%v", p)
		}
		p = p[:cap(p)]
		for i := range p {
			p[i] = 99
		}
	}
}

func TestBodiesAreNotChanged(t *testing.T) { // 'Rules that hold everywhere'
	for _, p := range append(someBodies(), body(none, 0), body(ballot(1, 7), 3)) {
		all := append(bytes.Clone(p), 1, 2, 3)
		kept := bytes.Clone(all)
		slot.Parse(all[:len(p)])
		if !bytes.Equal(all, kept) {
			t.Errorf("%v became %v", kept, all)
		}
	}
}
