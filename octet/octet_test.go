package octet_test

import (
	"bytes"
	"math"
	"slices"
	"strings"
	"testing"

	"sexton/api"
	"sexton/octet"
)

var realWidths = []int{1, 2, 4, 6}

var noWidths = []int{math.MinInt, -6, -1, 0, 3, 5, 7, 8, 9, 256, math.MaxInt}

// most returns the greatest number of a width.
func most(width int) int { return 1<<(8*width) - 1 }

// samples returns numbers of a width: its bounds, the bounds of all narrower ones, and one whose bytes all differ.
func samples(width int) []int {
	l := []int{0, 1, 127, 128, 254, 255, 0x060504030201 & most(width), most(width) - 1, most(width)}
	for k := 1; k < width; k++ {
		l = append(l, most(k)-1, most(k), most(k)+1)
	}
	return l
}

// texts returns strings of all kinds of lengths and bytes.
func texts() []string {
	l := []string{"", "a", "ab", "\x00", "\x00\x00\xff", "\xff\xfe", "h\u00e9", strings.Repeat("x", 254), strings.Repeat("\xff", 255)}
	every := make([]byte, 255)
	for i := range every {
		every[i] = byte(i)
	}
	return append(l, string(every))
}

// encoded returns the encoding of a number by the chapter's definition, made by quotients.
func encoded(width, n int) []byte {
	b := []byte{}
	for range width {
		b = append(b, byte(n%256))
		n /= 256
	}
	return b
}

func put(t *testing.T, width, n int) []byte {
	t.Helper()
	b, e := octet.Put(width, n)
	if e != api.OK {
		t.Fatalf("Put(%d, %d): error %d", width, n, e)
	}
	return b
}

func text(t *testing.T, s string) []byte {
	t.Helper()
	b, e := octet.Text(s)
	if e != api.OK {
		t.Fatalf("Text(%q): error %d", s, e)
	}
	return b
}

func wantGet(t *testing.T, b []byte, at, width, n, next int, e api.Errno) {
	t.Helper()
	if gotN, gotNext, gotE := octet.Get(b, at, width); gotN != n || gotNext != next || gotE != e {
		t.Errorf("Get(%v, %d, %d): %d, %d, %d; want %d, %d, %d", b, at, width, gotN, gotNext, gotE, n, next, e)
	}
}

func wantRead(t *testing.T, b []byte, at int, s string, next int, e api.Errno) {
	t.Helper()
	if gotS, gotNext, gotE := octet.Read(b, at); gotS != s || gotNext != next || gotE != e {
		t.Errorf("Read(%v, %d): %q, %d, %d; want %q, %d, %d", b, at, gotS, gotNext, gotE, s, next, e)
	}
}

func TestFitsAndPutOfWhatFits(t *testing.T) { // P1.1
	for _, width := range realWidths {
		for _, n := range samples(width) {
			if !octet.Fits(width, n) {
				t.Errorf("Fits(%d, %d): false", width, n)
			}
			if b := put(t, width, n); !bytes.Equal(b, encoded(width, n)) {
				t.Errorf("Put(%d, %d): %v", width, n, b)
			}
		}
	}
}

func TestFitsAndPutOfWhatDoesNotFit(t *testing.T) { // P1.1
	wrong := func(width, n int) {
		if octet.Fits(width, n) {
			t.Errorf("Fits(%d, %d): true", width, n)
		}
		if b, e := octet.Put(width, n); b != nil || e != api.ErrArg {
			t.Errorf("Put(%d, %d): %v, %d", width, n, b, e)
		}
	}
	for _, width := range realWidths {
		for _, n := range []int{math.MinInt, -most(width) - 1, -most(width), -256, -1, most(width) + 1, most(width) + 2, 1 << 48, 1 << 56, math.MaxInt} {
			wrong(width, n)
		}
	}
	for _, width := range noWidths {
		for _, n := range []int{math.MinInt, -1, 0, 1, 255, 256, math.MaxInt} {
			wrong(width, n)
		}
	}
}

func TestGet(t *testing.T) { // P1.2
	b := []byte{9, 2, 1, 0, 255, 3, 200, 7}
	wantGet(t, b, 0, 1, 9, 1, api.OK)
	wantGet(t, b, 4, 1, 255, 5, api.OK)
	wantGet(t, b, 7, 1, 7, 8, api.OK)
	wantGet(t, b, 1, 2, 258, 3, api.OK)
	wantGet(t, b, 6, 2, 7<<8+200, 8, api.OK)
	wantGet(t, b, 1, 4, 255<<24+258, 5, api.OK)
	wantGet(t, b, 2, 6, 7<<40+200<<32+3<<24+255<<16+1, 8, api.OK)
	wantGet(t, bytes.Repeat([]byte{255}, 6), 0, 6, 1<<48-1, 6, api.OK)
}

func TestGetOfWrongArguments(t *testing.T) { // P1.2
	b := []byte{1, 2, 3, 4, 5, 6, 7, 8}
	for _, width := range noWidths {
		for _, at := range []int{math.MinInt, -1, 0, 1, 8, 9, math.MaxInt} {
			wantGet(t, b, at, width, 0, 0, api.ErrArg)
			wantGet(t, nil, at, width, 0, 0, api.ErrArg)
		}
	}
	for _, width := range realWidths {
		for _, at := range []int{math.MinInt, -width, -1, 9, 10, math.MaxInt - 1, math.MaxInt} {
			wantGet(t, b, at, width, 0, 0, api.ErrArg)
		}
		wantGet(t, nil, -1, width, 0, 0, api.ErrArg)
		wantGet(t, nil, 1, width, 0, 0, api.ErrArg)
	}
}

func TestGetAtTheEnd(t *testing.T) { // P1.2
	b := []byte{1, 2, 3, 4, 5, 6, 7, 8}
	for _, width := range realWidths {
		wantGet(t, nil, 0, width, 0, 0, api.ErrShort)
		wantGet(t, b, 8, width, 0, 0, api.ErrShort)
		wantGet(t, b, 8-width+1, width, 0, 0, api.ErrShort)
		if _, next, e := octet.Get(b, 8-width, width); next != 8 || e != api.OK {
			t.Errorf("width %d up to the end: %d, %d", width, next, e)
		}
	}
}

func TestTextAndRead(t *testing.T) { // P1.3
	for _, s := range texts() {
		b := text(t, s)
		if want := append([]byte{byte(len(s))}, s...); !bytes.Equal(b, want) {
			t.Errorf("Text(%q): %v", s, b)
		}
	}
	wantRead(t, []byte{2, 97, 98, 7}, 0, "ab", 3, api.OK)
	wantRead(t, []byte{2, 97, 98, 7, 0}, 4, "", 5, api.OK)
	wantRead(t, []byte{9, 2, 0, 255}, 1, "\x00\xff", 4, api.OK)
}

func TestTextThatIsTooLong(t *testing.T) { // P1.3
	for _, size := range []int{256, 257, 511, 512, 65536} {
		if b, e := octet.Text(strings.Repeat("a", size)); b != nil || e != api.ErrLong {
			t.Errorf("%d bytes: %v, %d", size, b, e)
		}
	}
}

func TestReadOfWrongOffsets(t *testing.T) { // P1.3
	b := []byte{2, 97, 98}
	for _, at := range []int{math.MinInt, -2, -1, 4, 5, math.MaxInt} {
		wantRead(t, b, at, "", 0, api.ErrArg)
	}
	wantRead(t, nil, -1, "", 0, api.ErrArg)
	wantRead(t, nil, 1, "", 0, api.ErrArg)
	wantRead(t, b, 3, "", 0, api.ErrShort)
	wantRead(t, nil, 0, "", 0, api.ErrShort)
	wantRead(t, b, 1, "", 0, api.ErrShort)
}

func TestJoin(t *testing.T) { // P1.4
	for _, c := range []struct {
		l    [][]byte
		want []byte
	}{
		{nil, nil},
		{[][]byte{nil}, nil},
		{[][]byte{{}, nil, {}}, nil},
		{[][]byte{{7}}, []byte{7}},
		{[][]byte{{1}, nil, {2, 3}, {}, {1}}, []byte{1, 2, 3, 1}},
		{[][]byte{nil, {0, 0}, {255}}, []byte{0, 0, 255}},
	} {
		if b := octet.Join(c.l...); !bytes.Equal(b, c.want) {
			t.Errorf("Join(%v): %v", c.l, b)
		}
	}
	if b := octet.Join(); len(b) != 0 {
		t.Errorf("Join(): %v", b)
	}
}

// around returns the pieces between which an encoding is laid.
func around() [][]byte {
	return [][]byte{nil, {0}, {255}, {1, 2, 3}, bytes.Repeat([]byte{200}, 300)}
}

func TestRoundTripOfNumbers(t *testing.T) { // P1.5
	for _, width := range realWidths {
		for _, n := range samples(width) {
			for _, before := range around() {
				for _, after := range around() {
					b := slices.Concat(before, put(t, width, n), after)
					wantGet(t, b, len(before), width, n, len(before)+width, api.OK)
				}
			}
		}
	}
}

func TestRoundTripOfBytesAsNumbers(t *testing.T) { // P1.5
	b := []byte{0, 0, 1, 0, 255, 255, 128, 127, 3, 0, 0, 0, 0, 0, 0, 255, 255, 255, 255, 255, 255, 9}
	for _, width := range realWidths {
		for at := 0; at+width <= len(b); at++ {
			n, next, e := octet.Get(b, at, width)
			if e != api.OK || next != at+width || !bytes.Equal(put(t, width, n), b[at:next]) {
				t.Errorf("width %d at %d: %d, %d, %d", width, at, n, next, e)
			}
		}
	}
}

func TestRoundTripOfAllNarrowNumbers(t *testing.T) { // P1.5
	for _, width := range []int{1, 2} {
		for n := 0; n <= most(width); n++ {
			wantGet(t, put(t, width, n), 0, width, n, width, api.OK)
		}
	}
}

func TestRoundTripOfTexts(t *testing.T) { // P1.5
	for _, s := range texts() {
		for _, before := range around() {
			for _, after := range around() {
				b := slices.Concat(before, text(t, s), after)
				wantRead(t, b, len(before), s, len(before)+1+len(s), api.OK)
			}
		}
	}
}

func TestRoundTripOfBytesAsTexts(t *testing.T) { // P1.5
	b := []byte{3, 2, 0, 1, 255, 0, 4, 9, 9, 0, 0}
	for at := range b {
		s, next, e := octet.Read(b, at)
		if e == api.ErrShort {
			continue
		}
		if e != api.OK || !bytes.Equal(text(t, s), b[at:next]) {
			t.Errorf("at %d: %q, %d, %d", at, s, next, e)
		}
	}
}

func TestLeastSignificantByteFirst(t *testing.T) { // P1.6
	for _, width := range realWidths {
		for _, n := range samples(width) {
			b := put(t, width, n)
			if int(b[0]) != n%256 || !bytes.Equal(b[1:], encoded(width-1, n/256)) {
				t.Errorf("Put(%d, %d): %v", width, n, b)
			}
		}
	}
	for n := 0; n <= most(2); n++ {
		if b := put(t, 2, n); !bytes.Equal(b[1:], put(t, 1, n/256)) {
			t.Fatalf("Put(2, %d): %v", n, b)
		}
	}
}

func TestTruncatedNumbers(t *testing.T) { // P1.7
	for _, width := range realWidths {
		for _, n := range samples(width) {
			b := put(t, width, n)
			for _, before := range around() {
				for cut := range width {
					// The bytes that were cut off lie behind the slice's end, within its capacity: they must not be read.
					whole := slices.Concat(before, b)
					wantGet(t, whole[:len(before)+cut], len(before), width, 0, 0, api.ErrShort)
				}
			}
		}
	}
}

func TestTruncatedTexts(t *testing.T) { // P1.7
	for _, s := range texts() {
		b := text(t, s)
		for _, before := range around() {
			whole := slices.Concat(before, b)
			for cut := range b {
				wantRead(t, whole[:len(before)+cut], len(before), "", 0, api.ErrShort)
			}
		}
	}
}

func TestResultsShareNoMemory(t *testing.T) { // 'Rules that hold everywhere'
	first := put(t, 2, 258)
	first[0] = 9
	if b := put(t, 2, 258); b[0] != 2 {
		t.Errorf("Put: %v", b)
	}
	word := text(t, "ab")
	word[1] = 'z'
	if b := text(t, "ab"); b[1] != 'a' {
		t.Errorf("Text: %v", b)
	}
	input := []byte{2, 97, 98}
	s, _, _ := octet.Read(input, 0)
	input[1] = 'z'
	if s != "ab" {
		t.Errorf("Read: %q", s)
	}
	for _, l := range [][][]byte{{{1, 2}}, {nil, {1, 2}}, {{1, 2}, nil}, {{1}, {2}}} {
		b := octet.Join(l...)
		for _, piece := range l {
			clear(piece)
		}
		if !bytes.Equal(b, []byte{1, 2}) {
			t.Errorf("Join: %v", b)
		}
	}
}

func TestArgumentsAreNotChanged(t *testing.T) { // 'Rules that hold everywhere'
	backing := []byte{1, 2, 3, 4, 5, 6, 7, 8}
	kept := bytes.Clone(backing)
	b := octet.Join(backing[:2], backing[4:5])
	b = append(b, 99)
	b[0] = 77
	octet.Get(backing, 1, 6)
	octet.Read(backing, 2)
	if !bytes.Equal(backing, kept) {
		t.Errorf("%v", backing)
	}
}
