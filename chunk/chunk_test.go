package chunk_test

import (
	"bytes"
	"fmt"
	"math"
	"testing"

	"sexton/api"
	"sexton/chunk"
)

const (
	size = 80  // bytes of a chunk
	most = 640 // bytes of all chunks
)

// far holds the numbers that are farthest from all that are right, and some that are right in their lowest bits.
var far = []int{math.MinInt, math.MinInt + 1, math.MinInt + 2, -1 << 40, -1<<32 + 1, -1 << 32, -256, -255, 255, 256, 257, 264, 1<<16 + 1, 1 << 32, 1<<32 + 1, 1<<32 + 2, 1<<40 + 1, 1 << 62, math.MaxInt - 1, math.MaxInt}

// wrongCounts holds numbers of chunks that there are never.
var wrongCounts = append([]int{-81, -80, -9, -8, -2, -1, 0, 9, 10, 16, 79, 80, 81}, far...)

// varied returns so many bytes, in which no two chunks are alike; no two seeds have the same.
func varied(n, seed int) []byte {
	b := make([]byte, n)
	for i := range b {
		b[i] = byte(i*7 + i/size*31 + seed*101 + 1)
	}
	return b
}

// chunksOf, isCount, isIndex, couldBe and joined are the chapter's definitions, told anew.
func chunksOf(b []byte) [][]byte {
	if len(b) <= size {
		return [][]byte{b}
	}
	return append([][]byte{b[:size]}, chunksOf(b[size:])...)
}

func isCount(n int) bool {
	return n == 1 || n == 2 || n == 3 || n == 4 || n == 5 || n == 6 || n == 7 || n == 8
}

func isIndex(count, k int) bool { return k >= 0 && k < count }

func couldBe(count, k, length int) bool {
	switch {
	case !isIndex(count, k):
		return false
	case k < count-1:
		return length == 80
	case count > 1:
		return length >= 1 && length <= 80
	default:
		return length >= 0 && length <= 80
	}
}

// joined returns the bytes whose chunks l are, and whether there are any such.
func joined(l [][]byte) ([]byte, bool) {
	var b []byte
	for _, c := range l {
		b = append(b, c...)
	}
	return b, len(b) <= most && isSame(l, chunksOf(b))
}

// isSame reports whether the two lists hold the same bytes.
func isSame(a, b [][]byte) bool {
	if len(a) != len(b) {
		return false
	}
	for i := range a {
		if !bytes.Equal(a[i], b[i]) {
			return false
		}
	}
	return true
}

// copied returns a list in memory of its own.
func copied(l [][]byte) [][]byte {
	var all [][]byte
	for _, c := range l {
		all = append(all, append([]byte{}, c...))
	}
	return all
}

// spoil overwrites a slice's bytes, and those up to its capacity.
func spoil(b []byte) {
	b = b[:cap(b)]
	for i := range b {
		b[i] ^= 0xa5
	}
}

// spare returns the bytes in a slice that has room for more.
func spare(b []byte) []byte { return append(make([]byte, 0, len(b)+size+3), b...) }

// want wants a call to have returned the error.
func want(t *testing.T, call string, got, wanted api.Errno) {
	t.Helper()
	if got != wanted {
		t.Errorf("%s: %d instead of %d", call, got, wanted)
	}
}

// splitOf returns the chunks that Split is to return.
func splitOf(t *testing.T, b []byte) [][]byte {
	t.Helper()
	before := append([]byte{}, b...)
	l, e := chunk.Split(b)
	want(t, fmt.Sprint("Split of ", len(b)), e, api.OK)
	if !bytes.Equal(b, before) {
		t.Errorf("Split changed its %d bytes", len(b))
	}
	return l
}

// wantJoin wants Join to return what the definition says.
func wantJoin(t *testing.T, l [][]byte) {
	t.Helper()
	before := copied(l)
	wanted, ok := joined(l)
	got, e := chunk.Join(l)
	if !isSame(l, before) {
		t.Errorf("Join changed its list of %d", len(l))
	}
	if ok && (e != api.OK || !bytes.Equal(got, wanted)) || !ok && (e != api.ErrArg || got != nil) {
		t.Errorf("Join of %v: %d bytes, %d", lengthsOf(l), len(got), e)
	}
}

// lengthsOf returns the lengths of the chunks.
func lengthsOf(l [][]byte) []int {
	n := []int{}
	for _, c := range l {
		n = append(n, len(c))
	}
	return n
}

// listOf returns chunks of these lengths.
func listOf(lengths ...int) [][]byte {
	var l [][]byte
	for i, n := range lengths {
		l = append(l, varied(n, i))
	}
	return l
}

// TestSplitLengths compares the lengths of chunks to those that the chapter tells.
func TestSplitLengths(t *testing.T) { // P12.1
	for _, row := range []struct {
		n    int
		want []int
	}{
		{0, []int{0}}, {1, []int{1}}, {2, []int{2}}, {79, []int{79}}, {80, []int{80}},
		{81, []int{80, 1}}, {82, []int{80, 2}}, {159, []int{80, 79}}, {160, []int{80, 80}},
		{161, []int{80, 80, 1}}, {239, []int{80, 80, 79}}, {240, []int{80, 80, 80}},
		{241, []int{80, 80, 80, 1}}, {320, []int{80, 80, 80, 80}}, {321, []int{80, 80, 80, 80, 1}},
		{400, []int{80, 80, 80, 80, 80}}, {401, []int{80, 80, 80, 80, 80, 1}},
		{480, []int{80, 80, 80, 80, 80, 80}}, {481, []int{80, 80, 80, 80, 80, 80, 1}},
		{560, []int{80, 80, 80, 80, 80, 80, 80}}, {561, []int{80, 80, 80, 80, 80, 80, 80, 1}},
		{639, []int{80, 80, 80, 80, 80, 80, 80, 79}}, {640, []int{80, 80, 80, 80, 80, 80, 80, 80}},
	} {
		if got := lengthsOf(splitOf(t, varied(row.n, 1))); fmt.Sprint(got) != fmt.Sprint(row.want) {
			t.Errorf("%d: %v instead of %v", row.n, got, row.want)
		}
	}
	if l := splitOf(t, nil); len(l) != 1 || len(l[0]) != 0 {
		t.Errorf("nil: %v", l)
	}
}

// TestSplit splits and joins bytes of each length.
func TestSplit(t *testing.T) { // P12.1, P12.5
	for n := range most + 1 {
		for _, b := range [][]byte{varied(n, n), make([]byte, n), bytes.Repeat([]byte{255}, n), spare(varied(n, 3))} {
			l := splitOf(t, b)
			if !isSame(l, chunksOf(b)) {
				t.Errorf("%d: %v", n, lengthsOf(l))
			}
			if got, e := chunk.Join(l); e != api.OK || !bytes.Equal(got, b) {
				t.Errorf("%d: joined: %d bytes, %d", n, len(got), e)
			}
		}
	}
}

// TestSplitLong splits more bytes than there may be.
func TestSplitLong(t *testing.T) { // P1, P12.1
	for _, n := range []int{641, 642, 719, 720, 721, 1280, 1<<16 - 1, 1 << 16, 1<<16 + 80, 1 << 20} {
		if l, e := chunk.Split(make([]byte, n)); e != api.ErrLong || l != nil {
			t.Errorf("%d: %v, %d", n, lengthsOf(l), e)
		}
	}
}

// TestSplitMemory changes what Split got and returned.
func TestSplitMemory(t *testing.T) { // P12.1
	for _, n := range []int{1, 79, 80, 81, 160, 161, 639, 640} {
		b := spare(varied(n, 5))
		l := splitOf(t, b)
		wanted := copied(l)
		spoil(b)
		if !isSame(l, wanted) {
			t.Errorf("%d: the chunks changed with the bytes", n)
		}
		b = spare(varied(n, 5))
		l = splitOf(t, b)
		for k := range l {
			spoil(l[k])
			wanted[k] = append([]byte{}, l[k]...)
			if !isSame(l, wanted) {
				t.Errorf("%d: others changed with chunk %d", n, k)
			}
		}
		if !bytes.Equal(b, varied(n, 5)) {
			t.Errorf("%d: the bytes changed with the chunks", n)
		}
	}
}

// TestJoinLengths compares what Join returns to what the chapter tells.
func TestJoinLengths(t *testing.T) { // P12.1
	full := func(n int, more ...int) [][]byte {
		var l []int
		for range n {
			l = append(l, size)
		}
		return listOf(append(l, more...)...)
	}
	for i, row := range []struct {
		l     [][]byte
		total int // -1: these are no chunks
	}{
		{nil, -1}, {[][]byte{}, -1},
		{[][]byte{nil}, 0}, {[][]byte{{}}, 0}, {listOf(1), 1}, {listOf(79), 79}, {listOf(80), 80}, {listOf(81), -1}, {listOf(82), -1}, {listOf(160), -1}, {listOf(640), -1}, {listOf(641), -1},
		{listOf(80, 1), 81}, {listOf(80, 79), 159}, {listOf(80, 80), 160}, {listOf(80, 0), -1}, {[][]byte{varied(80, 0), nil}, -1}, {listOf(80, 81), -1},
		{listOf(79, 1), -1}, {listOf(81, 1), -1}, {listOf(0, 1), -1}, {listOf(0, 80), -1}, {listOf(0, 0), -1}, {[][]byte{nil, nil}, -1}, {listOf(1, 80), -1}, {listOf(79, 80), -1}, {listOf(81, 79), -1}, {listOf(79, 81), -1},
		{listOf(80, 79, 80), -1}, {listOf(80, 80, 1), 161}, {listOf(80, 80, 0), -1}, {listOf(80, 0, 80), -1}, {listOf(80, 0, 1), -1}, {listOf(80, 81, 79), -1},
		{full(7, 1), 561}, {full(7, 79), 639}, {full(8), 640}, {full(7, 0), -1}, {full(7, 81), -1},
		{full(8, 0), -1}, {full(8, 1), -1}, {full(9), -1}, {full(9, 1), -1}, {full(1000), -1},
	} {
		got, e := chunk.Join(row.l)
		switch {
		case row.total < 0:
			if e != api.ErrArg || got != nil {
				t.Errorf("%d: %d bytes, %d", i, len(got), e)
			}
		case e != api.OK || len(got) != row.total:
			t.Errorf("%d: %d bytes, %d", i, len(got), e)
		}
		wantJoin(t, row.l)
	}
}

// TestJoin joins chunks of all lengths at all edges, in lists of each length.
func TestJoin(t *testing.T) { // P12.1, P12.5
	edges := []int{0, 1, 2, 40, 78, 79, 80, 81, 82, 159, 160, 240, 640, 641}
	for _, a := range edges {
		wantJoin(t, listOf(a))
		for _, b := range edges {
			wantJoin(t, listOf(a, b))
			for _, c := range edges {
				wantJoin(t, listOf(a, b, c))
			}
		}
	}
	for count := range 12 {
		for k := range count {
			for length := range size + 10 {
				for _, last := range []int{0, 1, 79, 80, 81} {
					l := bytesOf(count)
					l[count-1] = varied(last, count)
					l[k] = varied(length, count+k)
					wantJoin(t, l)
				}
			}
		}
	}
	for length := range most + 2 {
		wantJoin(t, listOf(length))
		wantJoin(t, listOf(80, length))
		wantJoin(t, listOf(length, 80))
	}
}

// bytesOf returns so many full chunks.
func bytesOf(count int) [][]byte {
	var l [][]byte
	for k := range count {
		l = append(l, varied(size, k))
	}
	return l
}

// TestJoinedChunks splits what was joined.
func TestJoinedChunks(t *testing.T) { // P12.5
	for count := 1; count <= 8; count++ {
		for last := range size + 1 {
			l := bytesOf(count)
			l[count-1] = varied(last, count)
			b, e := chunk.Join(l)
			if last == 0 && count > 1 {
				want(t, "Join", e, api.ErrArg)
				continue
			}
			want(t, "Join", e, api.OK)
			if !isSame(splitOf(t, b), l) {
				t.Errorf("%d, the last one of %d: these are not the chunks of the result", count, last)
			}
		}
	}
}

// TestJoinMemory changes what Join got and returned.
func TestJoinMemory(t *testing.T) { // P12.1
	for _, lengths := range [][]int{{1}, {79}, {80}, {80, 1}, {80, 80}, {80, 80, 80, 80, 80, 80, 80, 80}} {
		l := listOf(lengths...)
		for k := range l {
			l[k] = spare(l[k])
		}
		before := copied(l)
		b, e := chunk.Join(l)
		want(t, "Join", e, api.OK)
		wanted := append([]byte{}, b...)
		spoil(b)
		if !isSame(l, before) {
			t.Errorf("%v: the chunks changed with the bytes", lengths)
		}
		b, _ = chunk.Join(l)
		for k := range l {
			spoil(l[k])
		}
		if !bytes.Equal(b, wanted) {
			t.Errorf("%v: the bytes changed with the chunks", lengths)
		}
	}
}

// TestPrint prints chunks of all lengths, with each number of chunks.
func TestPrint(t *testing.T) { // P12.2
	for count := 1; count <= 8; count++ {
		for n := range size + 1 {
			c := spare(varied(n, count))
			b, e := chunk.Print(count, c)
			if e != api.OK || len(b) != n+1 || b[0] != byte(count) || !bytes.Equal(b[1:], c) {
				t.Errorf("%d, %d: %v, %d", count, n, b, e)
			}
			spoil(b)
			if !bytes.Equal(c, varied(n, count)) {
				t.Errorf("%d, %d: the chunk changed with the body", count, n)
			}
			b, _ = chunk.Print(count, c)
			spoil(c)
			if !bytes.Equal(b[1:], varied(n, count)) {
				t.Errorf("%d, %d: the body changed with the chunk", count, n)
			}
		}
		if b, e := chunk.Print(count, nil); e != api.OK || !bytes.Equal(b, []byte{byte(count)}) {
			t.Errorf("%d, nil: %v, %d", count, b, e)
		}
	}
}

// TestWrongPrint prints with wrong numbers, and too many bytes.
func TestWrongPrint(t *testing.T) { // P1, P12.2
	wrong := func(count, n int) {
		t.Helper()
		if b, e := chunk.Print(count, make([]byte, n)); e != api.ErrArg || b != nil {
			t.Errorf("%d, %d bytes: %d bytes, %d", count, n, len(b), e)
		}
	}
	for _, n := range []int{81, 82, 87, 88, 160, 255, 256, 640, 641, 1 << 16} {
		for count := 1; count <= 8; count++ {
			wrong(count, n)
		}
		for _, count := range wrongCounts {
			wrong(count, n)
		}
	}
	for _, count := range wrongCounts {
		for _, n := range []int{0, 1, 79, 80} {
			wrong(count, n)
		}
		if b, e := chunk.Print(count, nil); e != api.ErrArg || b != nil {
			t.Errorf("%d, nil: %d bytes, %d", count, len(b), e)
		}
	}
}

// TestParse parses bytes of each length, with each first byte.
func TestParse(t *testing.T) { // P1, P12.2
	lengths := []int{160, 161, 255, 256, 257, 336, 640, 641, 642, 1 << 16}
	for n := range 100 {
		lengths = append(lengths, n)
	}
	for _, n := range lengths {
		for first := range 256 {
			b := spare(varied(n, first))
			if n > 0 {
				b[0] = byte(first)
			}
			before := append([]byte{}, b...)
			count, c, e := chunk.Parse(b)
			if !bytes.Equal(b, before) {
				t.Fatalf("%d bytes, the first %d: Parse changed them", n, first)
			}
			if n < 1 || n > 81 || !isCount(first) {
				if e != api.ErrChunk || count != 0 || c != nil {
					t.Fatalf("%d bytes, the first %d: %d, %v, %d", n, first, count, c, e)
				}
				continue
			}
			if e != api.OK || count != first || !bytes.Equal(c, b[1:]) {
				t.Fatalf("%d bytes, the first %d: %d, %v, %d", n, first, count, c, e)
			}
			if again, e := chunk.Print(count, c); e != api.OK || !bytes.Equal(again, b) {
				t.Fatalf("%d bytes, the first %d: printed: %v, %d", n, first, again, e)
			}
			spoil(c)
			if !bytes.Equal(b, before) {
				t.Fatalf("%d bytes, the first %d: they changed with the chunk", n, first)
			}
			_, c, _ = chunk.Parse(b)
			spoil(b)
			if !bytes.Equal(c, before[1:]) {
				t.Fatalf("%d bytes, the first %d: the chunk changed with them", n, first)
			}
		}
	}
	if count, c, e := chunk.Parse(nil); e != api.ErrChunk || count != 0 || c != nil {
		t.Errorf("nil: %d, %v, %d", count, c, e)
	}
}

// TestParseRows compares what Parse returns to hand-written rows: the number need not agree with the bytes.
func TestParseRows(t *testing.T) { // P12.2
	long := func(first byte, n int) []byte { return append([]byte{first}, varied(n, 0)...) }
	for i, row := range []struct {
		b     []byte
		count int // 0: this is no body
	}{
		{nil, 0}, {[]byte{}, 0}, {[]byte{0}, 0}, {[]byte{1}, 1}, {[]byte{2}, 2}, {[]byte{8}, 8}, {[]byte{9}, 0}, {[]byte{255}, 0},
		{[]byte{0, 1}, 0}, {[]byte{1, 0}, 1}, {[]byte{8, 7}, 8}, {[]byte{9, 7}, 0}, {[]byte{255, 1}, 0},
		{long(0, 80), 0}, {long(1, 80), 1}, {long(3, 79), 3}, {long(8, 80), 8}, {long(9, 80), 0}, {long(255, 80), 0},
		{long(0, 81), 0}, {long(1, 81), 0}, {long(8, 81), 0}, {long(9, 81), 0}, {long(255, 81), 0},
	} {
		count, c, e := chunk.Parse(row.b)
		switch {
		case row.count == 0:
			if e != api.ErrChunk || count != 0 || c != nil {
				t.Errorf("%d: %d, %v, %d", i, count, c, e)
			}
		case e != api.OK || count != row.count || !bytes.Equal(c, row.b[1:]):
			t.Errorf("%d: %d, %v, %d", i, count, c, e)
		}
	}
}
