package entry_test

import (
	"bytes"
	"fmt"
	"math"
	"math/rand"
	"slices"
	"strings"
	"testing"

	"sexton/api"
	"sexton/entry"
	"sexton/frame"
	"sexton/tag"
)

const (
	maxNumber = 1 << 40
	mostBody  = 59 // bytes
)

// far holds the numbers that are farthest from all that are right, and some that are right in their lowest bits.
var far = []int{math.MinInt, math.MinInt + 1, math.MinInt + 3, -1 << 48, -1 << 40, -1<<32 + 1, -256, -255, math.MaxInt - 1, math.MaxInt, 1 << 62, 1<<48 - 1, 1 << 48, 1<<48 + 1, 1<<56 + 3}

var (
	clients  = append([]int{-3, -2, -1, 0, 1, 2, 3, 4, 5, 127, 128, 255, 256, 257, 1<<16 + 1, 1<<32 + 3, maxNumber}, far...)
	seqs     = append([]int{-2, -1, 0, 1, 2, 3, 255, 256, 257, 1 << 16, 1<<32 - 1, 1 << 32, maxNumber - 1, maxNumber, maxNumber + 1, maxNumber + 2}, far...)
	rounds   = seqs
	replicas = append([]int{-2, -1, 0, 1, 2, 5, 6, 7, 8, 255, 256, 257, 262, 1<<16 + 1, 1<<32 + 6, maxNumber}, far...)
	kinds    = []uint8{0, 1, 2, 3, 4, 5, 6, 7, 8, 127, 128, 129, 130, 131, 132, 254, 255}
	keys     = texts(0, 1, 2, 7, 8, 9, 10, 16, 255, 256, 264)
	values   = texts(0, 1, 2, 15, 16, 17, 18, 255, 256, 272)
)

var (
	noop    = api.Entry{Kind: api.EnNoop}
	noEntry api.Entry
	none    api.Ballot
)

// texts returns texts of these lengths: of zero bytes, of the greatest ones, of bytes of all sorts, and of letters of more than one byte.
func texts(lengths ...int) []string {
	all := make([]byte, 300)
	for i := range all {
		all[i] = byte(i*37 + 1)
	}
	l := []string{}
	for _, n := range lengths {
		l = append(l, strings.Repeat("\x00", n))
		if n > 0 {
			l = append(l, strings.Repeat("\xff", n), string(all[:n]), strings.Repeat("é世", n)[:n])
		}
	}
	return l
}

// of, op and ballot are short for an entry, an operation and a ballot.
func of(client, seq int, o api.Op) api.Entry {
	return api.Entry{Kind: api.EnOp, Client: client, Seq: seq, Op: o}
}

func op(kind uint8, key, old, value string) api.Op {
	return api.Op{Kind: kind, Key: key, Old: old, Value: value}
}

func ballot(round, replica int) api.Ballot { return api.Ballot{Round: round, Replica: replica} }

// isOp, isEntry, isBallot, encoded, body, decoded and parsed are the chapter's definitions, told anew.
func isOp(o api.Op) bool {
	if len(o.Key) < 1 || len(o.Key) > 8 {
		return false
	}
	return (o.Kind == 1 || o.Kind == 3) && o.Old == "" && o.Value == "" ||
		o.Kind == 2 && o.Old == "" && len(o.Value) <= 16 ||
		o.Kind == 4 && len(o.Old) <= 16 && len(o.Value) <= 16
}

func isEntry(e api.Entry) bool {
	if e.Kind == 1 {
		return e.Client == 0 && e.Seq == 0 && e.Op.Kind == 0 && e.Op.Key == "" && e.Op.Old == "" && e.Op.Value == ""
	}
	return e.Kind == 2 && e.Client >= 0 && e.Client <= 3 && e.Seq >= 1 && e.Seq <= maxNumber && isOp(e.Op) && e.Op.Kind != 1
}

func isBallot(b api.Ballot) bool {
	return b.Round >= 1 && b.Round <= maxNumber && b.Replica >= 0 && b.Replica <= 6
}

// six returns the lowest six bytes of a number, whatever it is.
func six(n int) []byte {
	return []byte{byte(n), byte(n >> 8), byte(n >> 16), byte(n >> 24), byte(n >> 32), byte(n >> 40)}
}

// encoded returns the bytes of an entry of which at most the lengths fit theirs, valid or not.
func encoded(e api.Entry) []byte {
	if e.Kind != 2 {
		return []byte{e.Kind}
	}
	b := append([]byte{2, byte(e.Client)}, six(e.Seq)...)
	b = append(b, e.Op.Kind)
	for _, s := range []string{e.Op.Key, e.Op.Old, e.Op.Value} {
		b = append(b, byte(len(s)))
		b = append(b, s...)
	}
	return b
}

func body(b api.Ballot, e api.Entry) []byte {
	return slices.Concat(six(b.Round), []byte{byte(b.Replica)}, encoded(e))
}

func number(b []byte) int {
	n := 0
	for _, x := range slices.Backward(b) {
		n = n<<8 | int(x)
	}
	return n
}

// decoded returns the valid entry whose encoding begins the bytes, and its length, or -1.
func decoded(b []byte) (api.Entry, int) {
	if len(b) > 0 && b[0] == 1 {
		return noop, 1
	}
	if len(b) < 9 || b[0] != 2 {
		return noEntry, -1
	}
	e := of(int(b[1]), number(b[2:8]), api.Op{Kind: b[8]})
	at := 9
	var l [3]string
	for i := range l {
		if at >= len(b) || at+1+int(b[at]) > len(b) {
			return noEntry, -1
		}
		end := at + 1 + int(b[at])
		l[i], at = string(b[at+1:end]), end
	}
	e.Op.Key, e.Op.Old, e.Op.Value = l[0], l[1], l[2]
	if !isEntry(e) {
		return noEntry, -1
	}
	return e, at
}

// parsed returns the ballot and the entry of which the bytes are a body, or false.
func parsed(b []byte) (api.Ballot, api.Entry, bool) {
	if len(b) < 7 {
		return none, noEntry, false
	}
	x := ballot(number(b[:6]), int(b[6]))
	e, n := decoded(b[7:])
	if n != len(b)-7 || !isBallot(x) {
		return none, noEntry, false
	}
	return x, e, true
}

// wantBytes wants an entry to be what the definitions say, and its encoding to be read again.
func wantBytes(t *testing.T, e api.Entry) bool {
	t.Helper()
	valid := isEntry(e)
	if entry.May(e) != valid {
		t.Fatalf("May of %v: %v", e, !valid)
	}
	b, err := entry.Bytes(e)
	if !valid {
		if b != nil || err != api.ErrArg {
			t.Fatalf("Bytes of %v: %v, %d; want ErrArg", e, b, err)
		}
		return false
	}
	if err != api.OK || !bytes.Equal(b, encoded(e)) {
		t.Fatalf("Bytes of %v: %v, %d; want %v", e, b, err, encoded(e))
	}
	if x, next, err := entry.Read(b, 0); x != e || next != len(b) || err != api.OK {
		t.Fatalf("Read of %v: %v, %d, %d; want %v", b, x, next, err, e)
	}
	return true
}

// wantPrint does the same with a body.
func wantPrint(t *testing.T, b api.Ballot, e api.Entry) bool {
	t.Helper()
	p, err := entry.Print(b, e)
	if !isBallot(b) || !isEntry(e) {
		if p != nil || err != api.ErrArg {
			t.Fatalf("Print of %v, %v: %v, %d; want ErrArg", b, e, p, err)
		}
		return false
	}
	if err != api.OK || !bytes.Equal(p, body(b, e)) || len(p) > mostBody {
		t.Fatalf("Print of %v, %v: %v, %d; want %v", b, e, p, err, body(b, e))
	}
	if x, y, err := entry.Parse(p); x != b || y != e || err != api.OK {
		t.Fatalf("Parse of %v: %v, %v, %d; want %v, %v", p, x, y, err, b, e)
	}
	return true
}

// wantRead wants Read to tell what the definitions say of the bytes at the offset, and what it reads to have these bytes as its encoding.
func wantRead(t *testing.T, b []byte, at int) api.Errno {
	t.Helper()
	before := bytes.Clone(b)
	wanted, next, w := noEntry, 0, api.ErrArg
	if at >= 0 && at <= len(b) {
		w = api.ErrEntry
		if e, n := decoded(b[at:]); n >= 0 {
			wanted, next, w = e, at+n, api.OK
		}
	}
	e, n, err := entry.Read(b, at)
	if e != wanted || n != next || err != w {
		t.Fatalf("Read of %v at %d: %v, %d, %d; want %v, %d, %d", b, at, e, n, err, wanted, next, w)
	}
	if !bytes.Equal(b, before) {
		t.Fatalf("Read has changed %v to %v", before, b)
	}
	if err != api.OK {
		return err
	}
	if again, f := entry.Bytes(e); f != api.OK || !bytes.Equal(again, b[at:n]) {
		t.Fatalf("Bytes of %v: %v, %d; want %v", e, again, f, b[at:n])
	}
	return err
}

// wantParse does the same with Parse.
func wantParse(t *testing.T, b []byte) api.Errno {
	t.Helper()
	before := bytes.Clone(b)
	x, e, ok := parsed(b)
	w := api.OK
	if !ok {
		w = api.ErrEntry
	}
	y, f, err := entry.Parse(b)
	if y != x || f != e || err != w {
		t.Fatalf("Parse of %v: %v, %v, %d; want %v, %v, %d", b, y, f, err, x, e, w)
	}
	if !bytes.Equal(b, before) {
		t.Fatalf("Parse has changed %v to %v", before, b)
	}
	if !ok {
		return err
	}
	if again, g := entry.Print(y, f); g != api.OK || !bytes.Equal(again, b) {
		t.Fatalf("Print of %v, %v: %v, %d; want %v", y, f, again, g, b)
	}
	return err
}

func wantErrno(t *testing.T, call string, e, wanted api.Errno) {
	t.Helper()
	if e != wanted {
		t.Errorf("%s: %d; want %d", call, e, wanted)
	}
}

// someOps holds valid operations other than gets, with the least, the greatest and other strings.
func someOps() []api.Op {
	var l []api.Op
	for _, key := range texts(1, 8) {
		l = append(l, op(api.OpDelete, key, "", ""))
		for _, value := range texts(0, 3, 16) {
			l = append(l, op(api.OpPut, key, "", value), op(api.OpSwap, key, value, ""), op(api.OpSwap, key, "", value), op(api.OpSwap, key, value, value))
		}
	}
	return l
}

// someEntries holds valid entries: each kind, with the least and the greatest numbers.
func someEntries() []api.Entry {
	return []api.Entry{
		noop,
		of(0, 1, op(api.OpDelete, "k", "", "")),
		of(3, maxNumber, op(api.OpDelete, "\xff\x00\xfe12345", "", "")),
		of(0, 1, op(api.OpPut, "\x00", "", "")),
		of(2, 3, op(api.OpPut, "k", "", "v")),
		of(1, 256, op(api.OpPut, "eightlet", "", "\x01\x02\x01\x02\x01\x02\x01\x02\x01\x02\x01\x02\x01\x02\x01\x02")),
		of(3, maxNumber-1, op(api.OpSwap, "\x01", "", "")),
		of(0, 1<<33+5, op(api.OpSwap, "key", "\x02", "")),
		of(1, 255, op(api.OpSwap, "key", "", "\x02")),
		of(3, maxNumber, op(api.OpSwap, "eightlet", strings.Repeat("\xff", 16), strings.Repeat("\x00", 16))),
	}
}

func someBallots() []api.Ballot {
	return []api.Ballot{ballot(1, 0), ballot(1, 6), ballot(2, 1), ballot(258, 6), ballot(1<<33+5, 3), ballot(maxNumber-1, 5), ballot(maxNumber, 0), ballot(maxNumber, 6)}
}

func TestExamples(t *testing.T) { // P9.1, P9.2
	for _, c := range []struct {
		e    api.Entry
		want []byte
	}{
		{noop, []byte{1}},
		{of(2, 3, op(api.OpPut, "k", "", "v")), []byte{2, 2, 3, 0, 0, 0, 0, 0, 2, 1, 107, 0, 1, 118}},
	} {
		if b, e := entry.Bytes(c.e); e != api.OK || !bytes.Equal(b, c.want) {
			t.Errorf("Bytes of %v: %v, %d", c.e, b, e)
		}
		if x, next, e := entry.Read(c.want, 0); x != c.e || next != len(c.want) || e != api.OK {
			t.Errorf("Read of %v: %v, %d, %d", c.want, x, next, e)
		}
	}
	if entry.MayOp(op(api.OpPut, "", "", "v")) || entry.May(of(2, 3, op(api.OpPut, "", "", "v"))) {
		t.Error("a put without a key")
	}
	get := op(api.OpGet, "k", "", "")
	if !entry.MayOp(get) || entry.May(of(2, 3, get)) {
		t.Error("a get")
	}
}

// TestBodies names bodies byte by byte.
func TestBodies(t *testing.T) { // P9.3
	for _, c := range []struct {
		b    api.Ballot
		e    api.Entry
		want []byte
	}{
		{ballot(1, 0), noop, []byte{1, 0, 0, 0, 0, 0, 0, 1}},
		{ballot(258, 6), noop, []byte{2, 1, 0, 0, 0, 0, 6, 1}},
		{ballot(maxNumber, 5), of(3, 1<<32+7, op(api.OpDelete, "ab", "", "")), []byte{0, 0, 0, 0, 0, 1, 5, 2, 3, 7, 0, 0, 0, 1, 0, 3, 2, 97, 98, 0, 0}},
		{ballot(2, 1), of(1, maxNumber, op(api.OpSwap, "k", "o", "vw")), []byte{2, 0, 0, 0, 0, 0, 1, 2, 1, 0, 0, 0, 0, 0, 1, 4, 1, 107, 1, 111, 2, 118, 119}},
	} {
		if p, e := entry.Print(c.b, c.e); e != api.OK || !bytes.Equal(p, c.want) {
			t.Errorf("Print of %v, %v: %v, %d", c.b, c.e, p, e)
		}
		if x, y, e := entry.Parse(c.want); x != c.b || y != c.e || e != api.OK {
			t.Errorf("Parse of %v: %v, %v, %d", c.want, x, y, e)
		}
	}
}

// TestBounds names the bounds of each number and each string, one by one.
func TestBounds(t *testing.T) { // P9.1
	put := op(api.OpPut, "k", "", "v")
	for _, e := range []api.Entry{
		noop, of(0, 1, put), of(3, 1, put), of(0, maxNumber, put), of(3, maxNumber, put),
		of(0, 1, op(api.OpPut, "k", "", "")), of(0, 1, op(api.OpPut, "12345678", "", "1234567890123456")),
		of(0, 1, op(api.OpDelete, "k", "", "")), of(0, 1, op(api.OpDelete, "12345678", "", "")),
		of(0, 1, op(api.OpSwap, "k", "", "")), of(0, 1, op(api.OpSwap, "12345678", "1234567890123456", "1234567890123456")),
		of(0, 1, op(api.OpSwap, "k", "1234567890123456", "")), of(0, 1, op(api.OpSwap, "k", "", "1234567890123456")),
	} {
		if !entry.May(e) {
			t.Errorf("May of %v: false", e)
		}
	}
	for _, e := range []api.Entry{
		{}, {Kind: 3}, {Kind: 255}, {Kind: 3, Seq: 1, Op: put}, {Seq: 1, Op: put},
		of(-1, 1, put), of(4, 1, put), of(0, 0, put), of(0, -1, put), of(0, maxNumber+1, put), of(256, 1, put), of(0, 1<<48+1, put),
		of(0, 1, op(0, "k", "", "")), of(0, 1, op(api.OpGet, "k", "", "")), of(0, 1, op(5, "k", "", "")), of(0, 1, op(255, "k", "", "")), of(0, 1, api.Op{}),
		of(0, 1, op(api.OpPut, "", "", "")), of(0, 1, op(api.OpPut, "123456789", "", "")), of(0, 1, op(api.OpPut, "k", "", "12345678901234567")), of(0, 1, op(api.OpPut, "k", "\x00", "")),
		of(0, 1, op(api.OpDelete, "", "", "")), of(0, 1, op(api.OpDelete, "123456789", "", "")), of(0, 1, op(api.OpDelete, "k", "\x00", "")), of(0, 1, op(api.OpDelete, "k", "", "\x00")),
		of(0, 1, op(api.OpSwap, "", "", "")), of(0, 1, op(api.OpSwap, "123456789", "", "")), of(0, 1, op(api.OpSwap, "k", "12345678901234567", "")), of(0, 1, op(api.OpSwap, "k", "", "12345678901234567")),
	} {
		if entry.May(e) {
			t.Errorf("May of %v: true", e)
		}
	}
	for _, o := range []api.Op{op(api.OpGet, "k", "", ""), op(api.OpGet, "12345678", "", "")} {
		if !entry.MayOp(o) {
			t.Errorf("MayOp of %v: false", o)
		}
	}
	for _, o := range []api.Op{{}, op(api.OpGet, "", "", ""), op(api.OpGet, "123456789", "", ""), op(api.OpGet, "k", "\x00", ""), op(api.OpGet, "k", "", "\x00"), op(0, "", "", ""), op(5, "", "", "")} {
		if entry.MayOp(o) {
			t.Errorf("MayOp of %v: true", o)
		}
	}
}

// TestOperations asks for each kind with each length of each string, beside each other one.
func TestOperations(t *testing.T) { // P9.1, P9.2, P9.6
	right := map[uint8]int{}
	wrong := map[uint8]int{}
	for _, kind := range kinds {
		for _, key := range keys {
			for _, old := range values {
				for _, value := range values {
					o := op(kind, key, old, value)
					valid := isOp(o)
					if entry.MayOp(o) != valid {
						t.Fatalf("MayOp of %v: %v", o, !valid)
					}
					if valid {
						right[kind]++
					} else {
						wrong[kind]++
					}
					if wantBytes(t, of(1, 2, o)) != (valid && kind != api.OpGet) {
						t.Fatalf("Bytes of an entry with %v", o)
					}
				}
			}
		}
	}
	if len(right) != 4 || right[api.OpGet] != 16 || right[api.OpDelete] != 16 || right[api.OpPut] != 16*17 || right[api.OpSwap] != 16*17*17 || len(wrong) != len(kinds) {
		t.Errorf("right: %v; wrong: %v", right, wrong)
	}
}

// TestEachKind asks for each number that a kind may be, of an entry and of an operation.
func TestEachKind(t *testing.T) { // P9.1
	entries, operations := 0, 0
	for kind := range 256 {
		for _, o := range append(someOps(), op(api.OpGet, "k", "", ""), api.Op{}) {
			e := of(0, 1, o)
			e.Kind = uint8(kind)
			if wantBytes(t, e) {
				entries++
			}
			o.Kind = uint8(kind)
			if entry.MayOp(o) != isOp(o) {
				t.Fatalf("MayOp of %v: %v", o, !isOp(o))
			}
			if isOp(o) {
				operations++
			}
		}
		wantBytes(t, api.Entry{Kind: uint8(kind)})
	}
	if entries != len(someOps()) || operations <= entries {
		t.Errorf("%d entries, %d operations", entries, operations)
	}
}

// TestNumbers asks for each number of an entry at its bounds and beyond them.
func TestNumbers(t *testing.T) { // P9.1, P9.2
	right, wrong := 0, 0
	for _, client := range clients {
		for _, seq := range seqs {
			for _, o := range []api.Op{op(api.OpPut, "k", "", "v"), op(api.OpDelete, "k", "", ""), op(api.OpSwap, "eightlet", "1", "2"), op(api.OpGet, "k", "", ""), {}} {
				for _, kind := range []uint8{0, api.EnNoop, api.EnOp, 3} {
					if wantBytes(t, api.Entry{Kind: kind, Client: client, Seq: seq, Op: o}) {
						right++
					} else {
						wrong++
					}
				}
			}
		}
	}
	// A noop, and for an operation 4 clients, 3 of the operations, and 11 of the seqs.
	if right != 1+4*3*11 || wrong < 10000 {
		t.Errorf("%d right ones, %d wrong ones", right, wrong)
	}
}

// TestBallots asks for each number of a ballot at its bounds and beyond them.
func TestBallots(t *testing.T) { // P9.3, P9.5
	right, wrong := 0, 0
	for _, round := range rounds {
		for _, replica := range replicas {
			for _, e := range append(someEntries(), noEntry, of(0, 0, op(api.OpPut, "k", "", ""))) {
				if wantPrint(t, ballot(round, replica), e) {
					right++
				} else {
					wrong++
				}
			}
		}
	}
	// 11 of the rounds, and 5 of the replicas.
	if right != 11*5*len(someEntries()) || wrong < 5000 {
		t.Errorf("%d right ones, %d wrong ones", right, wrong)
	}
	for _, b := range []api.Ballot{ballot(1, 0), ballot(1, 6), ballot(maxNumber, 0), ballot(maxNumber, 6)} {
		if _, e := entry.Print(b, noop); e != api.OK {
			t.Errorf("Print with %v: %d", b, e)
		}
	}
	for _, b := range []api.Ballot{none, ballot(0, 1), ballot(-1, 0), ballot(maxNumber+1, 0), ballot(1, -1), ballot(1, 7)} {
		if p, e := entry.Print(b, noop); e != api.ErrArg || p != nil {
			t.Errorf("Print with %v: %v, %d", b, p, e)
		}
	}
}

// TestPrintOfOperations prints each valid operation and many others.
func TestPrintOfOperations(t *testing.T) { // P9.3, P9.4, P9.5
	for _, b := range append(someBallots(), none) {
		for _, o := range someOps() {
			wantPrint(t, b, of(3, maxNumber, o))
			wantPrint(t, b, of(4, maxNumber, o))
			wantPrint(t, b, of(3, maxNumber+1, o))
		}
	}
}

// TestSize wants the longest body to have exactly as many bytes as the chapter says, and to fit in a frame of the log.
func TestSize(t *testing.T) { // P9.5
	longest := 0
	for _, b := range someBallots() {
		for _, e := range someEntries() {
			p, err := entry.Print(b, e)
			if err != api.OK {
				t.Fatalf("Print of %v, %v: %d", b, e, err)
			}
			longest = max(longest, len(p))
			if _, err := frame.Seal(tag.Tag{Region: 4, Index: 1, Incarnation: 1}, p, 2); err != api.OK {
				t.Errorf("Seal of %v: %d", p, err)
			}
		}
	}
	if longest != mostBody {
		t.Errorf("%d bytes", longest)
	}
}

// TestOtherFields sets each field that a kind does not have.
func TestOtherFields(t *testing.T) { // P9.6
	for _, x := range append([]int{1, 2, 3, 4, -1, maxNumber}, far...) {
		for _, e := range []api.Entry{{Kind: api.EnNoop, Client: x}, {Kind: api.EnNoop, Seq: x}, {Kind: api.EnNoop, Op: api.Op{Kind: uint8(x | 1)}}} {
			if wantBytes(t, e) || wantPrint(t, ballot(1, 0), e) {
				t.Errorf("%v is valid", e)
			}
		}
	}
	for _, s := range append(texts(1, 8, 9, 16, 17, 256), "k") {
		for _, e := range []api.Entry{
			{Kind: api.EnNoop, Op: api.Op{Key: s}}, {Kind: api.EnNoop, Op: api.Op{Old: s}}, {Kind: api.EnNoop, Op: api.Op{Value: s}},
			of(0, 1, op(api.OpPut, "k", s, "")), of(0, 1, op(api.OpPut, "k", s, "v")), of(0, 1, op(api.OpDelete, "k", s, "")), of(0, 1, op(api.OpDelete, "k", "", s)), of(0, 1, op(api.OpDelete, "k", s, s)),
		} {
			if wantBytes(t, e) || wantPrint(t, ballot(1, 0), e) {
				t.Errorf("%v is valid", e)
			}
		}
		for _, o := range []api.Op{op(api.OpGet, "k", s, ""), op(api.OpGet, "k", "", s), op(api.OpGet, "k", s, s), op(api.OpPut, "k", s, ""), op(api.OpDelete, "k", s, ""), op(api.OpDelete, "k", "", s)} {
			if entry.MayOp(o) {
				t.Errorf("%v is valid", o)
			}
		}
	}
	for _, o := range append(someOps(), op(api.OpGet, "k", "", "")) {
		for _, e := range []api.Entry{{Kind: api.EnNoop, Op: o}, {Kind: api.EnNoop, Client: 1, Seq: 1, Op: o}} {
			if wantBytes(t, e) {
				t.Errorf("%v is valid", e)
			}
		}
	}
}

// TestRoundTrip encodes valid entries of all sorts, and reads them between other bytes.
func TestRoundTrip(t *testing.T) { // P9.4
	for _, e := range someEntries() {
		b, err := entry.Bytes(e)
		if err != api.OK {
			t.Fatalf("Bytes of %v: %d", e, err)
		}
		for _, before := range [][]byte{nil, {0}, {1}, {2}, {255}, {9, 9}, bytes.Repeat([]byte{200}, 300)} {
			for _, after := range [][]byte{nil, {0}, {1}, {2}, {255}, {9, 9}, bytes.Repeat([]byte{200}, 300)} {
				all := slices.Concat(before, b, after)
				if x, next, err := entry.Read(all, len(before)); x != e || next != len(before)+len(b) || err != api.OK {
					t.Errorf("Read of %v at %d: %v, %d, %d; want %v", all, len(before), x, next, err, e)
				}
			}
		}
	}
}

// TestOneAfterTheOther reads entries whose encodings follow each other, and then at each place of them.
func TestOneAfterTheOther(t *testing.T) { // P9.2, P9.4
	r := rand.New(rand.NewSource(9))
	for range 200 {
		var written []api.Entry
		var b []byte
		for range r.Intn(8) {
			e := someEntries()[r.Intn(len(someEntries()))]
			x, _ := entry.Bytes(e)
			written, b = append(written, e), append(b, x...)
		}
		at := 0
		for _, e := range written {
			x, next, err := entry.Read(b, at)
			if x != e || err != api.OK {
				t.Fatalf("Read of %v at %d: %v, %d; want %v", b, at, x, err, e)
			}
			at = next
		}
		if at != len(b) {
			t.Fatalf("%d of %d bytes were read", at, len(b))
		}
		for at := -3; at < len(b)+4; at++ {
			wantRead(t, b, at)
		}
	}
}

// TestOffsets reads at the ends, beyond them, and as far from them as an int goes.
func TestOffsets(t *testing.T) { // P1, P9.2
	for _, b := range [][]byte{nil, {}, {1}, {2}, {1, 1}, {0}, encoded(someEntries()[4]), encoded(someEntries()[9])} {
		for _, at := range append([]int{-2, -1, len(b) + 1, len(b) + 2, 255, 256, 1 << 32}, far...) {
			if at >= 0 && at <= len(b) {
				t.Fatalf("%d is an offset of %d bytes", at, len(b))
			}
			wantErrno(t, fmt.Sprintf("Read of %v at %d", b, at), wantRead(t, b, at), api.ErrArg)
		}
		wantErrno(t, fmt.Sprintf("Read of %v at its end", b), wantRead(t, b, len(b)), api.ErrEntry)
		// An offset within the capacity alone is above the length.
		wantErrno(t, "behind the length", wantRead(t, append(bytes.Clone(b), 1, 1)[:len(b)], len(b)+1), api.ErrArg)
		wantErrno(t, "at the end, with capacity", wantRead(t, append(bytes.Clone(b), 1, 1)[:len(b)], len(b)), api.ErrEntry)
	}
	wantErrno(t, "a noop", wantRead(t, []byte{7, 1}, 1), api.OK)
	wantErrno(t, "behind it", wantRead(t, []byte{7, 1}, 2), api.ErrEntry)
	wantErrno(t, "before it", wantRead(t, []byte{7, 1}, 0), api.ErrEntry)
}

// TestTruncatedAndExtended reads encodings, and parses bodies, that lack bytes, or have some more.
func TestTruncatedAndExtended(t *testing.T) { // P9.2, P9.3, P9.4
	wantErrno(t, "Parse of nil", wantParse(t, nil), api.ErrEntry)
	wantErrno(t, "Parse of nothing", wantParse(t, []byte{}), api.ErrEntry)
	for _, e := range someEntries() {
		b := encoded(e)
		wantErrno(t, "Read", wantRead(t, b, 0), api.OK)
		for n := range b {
			wantErrno(t, "Read of the first bytes", wantRead(t, b[:n], 0), api.ErrEntry)
			wantErrno(t, "Read of the first bytes, cut off", wantRead(t, b[:n:n], 0), api.ErrEntry)
			wantErrno(t, "Read of the first bytes behind others", wantRead(t, slices.Concat(b, b[:n]), len(b)), api.ErrEntry)
		}
		for _, x := range someBallots() {
			p := body(x, e)
			wantErrno(t, "Parse", wantParse(t, p), api.OK)
			for n := range p {
				wantErrno(t, "Parse of the first bytes", wantParse(t, p[:n]), api.ErrEntry)
				wantErrno(t, "Parse of the first bytes, cut off", wantParse(t, p[:n:n]), api.ErrEntry)
				wantErrno(t, "Parse without the first bytes", wantParse(t, p[n+1:]), api.ErrEntry)
				wantParse(t, slices.Delete(bytes.Clone(p), n, n+1))
				for _, y := range []byte{0, 1, 2, 255} {
					wantParse(t, slices.Insert(bytes.Clone(p), n, y))
				}
			}
			for _, y := range []byte{0, 1, 2, 255} {
				for _, n := range []int{1, 2, 6, 7, 8, 64, 300} {
					wantErrno(t, "Parse with more bytes", wantParse(t, slices.Concat(p, bytes.Repeat([]byte{y}, n))), api.ErrEntry)
				}
			}
			wantErrno(t, "Parse of a body and a noop", wantParse(t, slices.Concat(p, encoded(noop))), api.ErrEntry)
			wantErrno(t, "Parse of a body and an entry", wantParse(t, slices.Concat(p, b)), api.ErrEntry)
			wantErrno(t, "Parse of two bodies", wantParse(t, slices.Concat(p, p)), api.ErrEntry)
			wantErrno(t, "Parse of an encoding alone", wantParse(t, b), api.ErrEntry)
		}
	}
}

// TestEachByte reads and parses with each byte as each number.
func TestEachByte(t *testing.T) { // P9.2, P9.3, P9.4
	told := map[api.Errno]int{}
	for i, e := range someEntries() {
		p := body(someBallots()[i%len(someBallots())], e)
		for at := range p {
			for x := range 256 {
				c := bytes.Clone(p)
				c[at] = byte(x)
				told[wantParse(t, c)]++
				wantRead(t, c, 7)
				wantRead(t, c, min(at, len(c)))
			}
		}
	}
	if len(told) != 2 || told[api.OK] < 5000 || told[api.ErrEntry] < 5000 {
		t.Errorf("%v", told)
	}
}

// TestWrongNumbers reads and parses encodings of numbers that fit their bytes, valid or not.
func TestWrongNumbers(t *testing.T) { // P9.2, P9.3
	told := map[api.Errno]int{}
	for _, client := range clients {
		for _, seq := range seqs {
			for _, o := range []api.Op{op(api.OpPut, "k", "", "v"), op(api.OpGet, "k", "", ""), op(0, "", "", ""), op(5, "k", "", "")} {
				b := encoded(of(client, seq, o))
				told[wantRead(t, b, 0)]++
				told[wantParse(t, slices.Concat(body(ballot(1, 0), noop)[:7], b))]++
			}
		}
	}
	for _, round := range rounds {
		for _, replica := range replicas {
			for _, e := range someEntries() {
				told[wantParse(t, body(ballot(round, replica), e))]++
			}
		}
	}
	if len(told) != 2 || told[api.OK] < 500 || told[api.ErrEntry] < 5000 {
		t.Errorf("%v", told)
	}
}

// TestWrongTexts reads and parses encodings of operations whose strings are such as their kinds do not have, or too long.
func TestWrongTexts(t *testing.T) { // P9.2, P9.3, P9.6
	told := map[api.Errno]int{}
	for _, kind := range kinds {
		for _, key := range texts(0, 1, 8, 9, 255) {
			for _, old := range texts(0, 1, 16, 17, 255) {
				for _, value := range texts(0, 1, 16, 17, 255) {
					b := encoded(of(3, 1, op(kind, key, old, value)))
					told[wantRead(t, b, 0)]++
					told[wantParse(t, slices.Concat(body(ballot(1, 0), noop)[:7], b))]++
				}
			}
		}
	}
	if len(told) != 2 || told[api.OK] < 1000 || told[api.ErrEntry] < 10000 {
		t.Errorf("%v", told)
	}
}

// TestWrongLengths reads encodings whose lengths reach beyond the input, from each of the three strings.
func TestWrongLengths(t *testing.T) { // P9.2, P9.3
	start := []byte{2, 0, 1, 0, 0, 0, 0, 0, 4}
	for key := range 20 {
		for old := range 20 {
			for value := range 20 {
				for more := range 4 {
					b := slices.Concat(start, []byte{byte(key)}, make([]byte, min(key, more*6)), []byte{byte(old)}, make([]byte, min(old, more*6)), []byte{byte(value)}, make([]byte, min(value, more*6)))
					wantRead(t, b, 0)
					wantRead(t, append(b, 0, 0, 0), 0)
					wantParse(t, slices.Concat([]byte{1, 0, 0, 0, 0, 0, 0}, b))
				}
			}
		}
	}
}

// TestRandomBytes reads and parses bytes that look like encodings more or less.
func TestRandomBytes(t *testing.T) { // P1, P9.2, P9.3, P9.4
	r := rand.New(rand.NewSource(3))
	told := map[api.Errno]int{}
	for range 200000 {
		b := make([]byte, r.Intn(70))
		for i := range b {
			switch b[i] = byte(r.Intn(5)); r.Intn(20) {
			case 0:
				b[i] = byte(r.Intn(256))
			case 1:
				b[i] = byte(r.Intn(18))
			}
		}
		for range 3 {
			told[wantRead(t, b, r.Intn(len(b)+3)-1)]++
		}
		wantParse(t, b)
	}
	if len(told) != 3 || told[api.OK] < 1000 {
		t.Errorf("%v", told)
	}
}

// random returns a text of at most that many bytes.
func random(r *rand.Rand, least, most int) string {
	b := make([]byte, least+r.Intn(most-least+1))
	r.Read(b)
	return string(b)
}

// TestRandomEntries encodes valid entries with any bytes in their strings.
func TestRandomEntries(t *testing.T) { // P9.4, P9.5
	r := rand.New(rand.NewSource(4))
	for range 50000 {
		o := op([]uint8{api.OpPut, api.OpDelete, api.OpSwap}[r.Intn(3)], random(r, 1, 8), "", "")
		if o.Kind != api.OpDelete {
			o.Value = random(r, 0, 16)
		}
		if o.Kind == api.OpSwap {
			o.Old = random(r, 0, 16)
		}
		e := of(r.Intn(4), 1+r.Intn(maxNumber)>>r.Intn(40), o)
		if !wantBytes(t, e) || !wantPrint(t, ballot(1+r.Intn(maxNumber)>>r.Intn(40), r.Intn(7)), e) {
			t.Fatalf("%v is not valid", e)
		}
	}
}

// TestOrderOfErrors wants a wrong offset to be told before bytes that are no encoding.
func TestOrderOfErrors(t *testing.T) { // P1
	for _, b := range [][]byte{nil, {0}, {255, 255}, {2, 0}} {
		for _, at := range []int{-1, len(b) + 1, math.MinInt, math.MaxInt} {
			if e, next, err := entry.Read(b, at); e != noEntry || next != 0 || err != api.ErrArg {
				t.Errorf("Read of %v at %d: %v, %d, %d", b, at, e, next, err)
			}
		}
	}
	if p, e := entry.Print(none, noEntry); p != nil || e != api.ErrArg {
		t.Errorf("Print of nothing: %v, %d", p, e)
	}
}

func TestResultsShareNoMemory(t *testing.T) { // 'Rules that hold everywhere'
	for _, e := range someEntries() {
		for range 2 {
			b, _ := entry.Bytes(e)
			p, _ := entry.Print(ballot(258, 6), e)
			if !bytes.Equal(b, encoded(e)) || !bytes.Equal(p, body(ballot(258, 6), e)) {
				t.Fatalf("of %v: %v, %v", e, b, p)
			}
			x, _, _ := entry.Read(b, 0)
			_, y, _ := entry.Parse(p)
			for _, l := range [][]byte{b, p} {
				l = l[:cap(l)]
				for i := range l {
					l[i] = 99
				}
			}
			if x != e || y != e {
				t.Errorf("%v became %v and %v", e, x, y)
			}
		}
	}
}

func TestArgumentsAreNotChanged(t *testing.T) { // 'Rules that hold everywhere'
	for _, e := range append(someEntries(), noEntry, of(9, 0, op(7, "123456789", "x", "y"))) {
		kept, b := e, ballot(5, 2)
		entry.MayOp(e.Op)
		entry.May(e)
		entry.Bytes(e)
		entry.Print(b, e)
		if e != kept || b != ballot(5, 2) {
			t.Errorf("%v became %v", kept, e)
		}
		all := append(body(b, e), 1, 2, 3)
		before := bytes.Clone(all)
		entry.Read(all[:len(all)-3], 7)
		entry.Parse(all[:len(all)-3])
		if !bytes.Equal(all, before) {
			t.Errorf("%v became %v", before, all)
		}
	}
}
