package chunk_test

import (
	"bytes"
	"fmt"
	"math/rand"
	"slices"
	"testing"

	"sexton/api"
	"sexton/chunk"
)

// made returns a new heap.
func made(t *testing.T, count int) *chunk.Heap {
	t.Helper()
	h, e := chunk.New(count)
	if e != api.OK || h == nil {
		t.Fatalf("New of %d: %v, %d", count, h, e)
	}
	return h
}

// model is what a heap holds, by the chapter's definition: nil where it holds nothing.
type model [][]byte

func (m model) put(k int, c []byte) api.Errno {
	if !couldBe(len(m), k, len(c)) {
		return api.ErrArg
	}
	m[k] = append([]byte{}, c...)
	return api.OK
}

func (m model) lose(k int) api.Errno {
	if !isIndex(len(m), k) {
		return api.ErrArg
	}
	m[k] = nil
	return api.OK
}

func (m model) missing() []int {
	l := []int{}
	for k, c := range m {
		if c == nil {
			l = append(l, k)
		}
	}
	return l
}

// wantHeld wants the heap to hold what the model does, by all that tells of it.
func wantHeld(t *testing.T, at string, h *chunk.Heap, m model) {
	t.Helper()
	for _, k := range append([]int{-80, -9, -8, -2, -1, 0, 1, 2, 3, 4, 5, 6, 7, 8, 9, 10, 80}, far...) {
		c, ok := h.Get(k)
		if !isIndex(len(m), k) || m[k] == nil {
			if ok || c != nil {
				t.Errorf("%s: Get(%d): %d bytes, %v", at, k, len(c), ok)
			}
		} else if !ok || !bytes.Equal(c, m[k]) {
			t.Errorf("%s: Get(%d): %v, %v", at, k, c, ok)
		}
	}
	missing := h.Missing()
	if !slices.Equal(missing, m.missing()) {
		t.Errorf("%s: %v are missing instead of %v", at, missing, m.missing())
	}
	b, e := h.Whole()
	if len(missing) > 0 && (e != api.ErrChunk || b != nil) {
		t.Errorf("%s: Whole without %v: %d bytes, %d", at, missing, len(b), e)
	}
	if len(missing) == 0 && (e != api.OK || !bytes.Equal(b, slices.Concat(m...))) {
		t.Errorf("%s: Whole: %d bytes, %d", at, len(b), e)
	}
}

// TestNew makes heaps for each number of chunks, and for numbers that there are never.
func TestNew(t *testing.T) { // P1, P12.3, P12.4
	for count := 1; count <= 8; count++ {
		wantHeld(t, fmt.Sprint("of ", count), made(t, count), make(model, count))
	}
	for _, count := range wrongCounts {
		if h, e := chunk.New(count); e != api.ErrArg || h != nil {
			t.Errorf("New of %d: %v, %d", count, h, e)
		}
	}
}

// TestExamples does what the chapter's examples tell, and a little more.
func TestExamples(t *testing.T) { // P12.3, P12.4
	h := made(t, 2)
	if l := h.Missing(); !slices.Equal(l, []int{0, 1}) {
		t.Errorf("%v", l)
	}
	want(t, "Put", h.Put(0, varied(80, 1)), api.OK)
	if l := h.Missing(); !slices.Equal(l, []int{1}) {
		t.Errorf("%v", l)
	}
	want(t, "Put", h.Put(1, []byte{9}), api.OK)
	if l := h.Missing(); len(l) != 0 {
		t.Errorf("%v", l)
	}
	if b, e := h.Whole(); e != api.OK || len(b) != 81 || b[80] != 9 {
		t.Errorf("%v, %d", b, e)
	}
	want(t, "Lose", h.Lose(0), api.OK)
	if l := h.Missing(); !slices.Equal(l, []int{0}) {
		t.Errorf("%v", l)
	}
	if b, e := h.Whole(); e != api.ErrChunk || b != nil {
		t.Errorf("%v, %d", b, e)
	}
}

// TestPutRows compares what Put returns to hand-written rows.
func TestPutRows(t *testing.T) { // P12.3
	for _, row := range []struct {
		count, k, length int
		want             api.Errno
	}{
		{1, 0, 0, api.OK}, {1, 0, 1, api.OK}, {1, 0, 79, api.OK}, {1, 0, 80, api.OK}, {1, 0, 81, api.ErrArg}, {1, 0, 640, api.ErrArg}, {1, 0, 641, api.ErrArg},
		{1, 1, 0, api.ErrArg}, {1, 1, 80, api.ErrArg}, {1, -1, 0, api.ErrArg}, {1, -1, 80, api.ErrArg},
		{2, 0, 80, api.OK}, {2, 0, 79, api.ErrArg}, {2, 0, 81, api.ErrArg}, {2, 0, 1, api.ErrArg}, {2, 0, 0, api.ErrArg},
		{2, 1, 80, api.OK}, {2, 1, 79, api.OK}, {2, 1, 1, api.OK}, {2, 1, 0, api.ErrArg}, {2, 1, 81, api.ErrArg}, {2, 2, 80, api.ErrArg}, {2, 2, 1, api.ErrArg},
		{3, 1, 80, api.OK}, {3, 1, 79, api.ErrArg}, {3, 1, 1, api.ErrArg}, {3, 2, 1, api.OK}, {3, 2, 0, api.ErrArg},
		{8, 0, 80, api.OK}, {8, 6, 80, api.OK}, {8, 6, 79, api.ErrArg}, {8, 7, 80, api.OK}, {8, 7, 1, api.OK}, {8, 7, 0, api.ErrArg}, {8, 8, 80, api.ErrArg}, {8, -1, 80, api.ErrArg},
	} {
		h := made(t, row.count)
		want(t, fmt.Sprint("Put ", row), h.Put(row.k, varied(row.length, 1)), row.want)
		if _, ok := h.Get(row.k); ok != (row.want == api.OK) {
			t.Errorf("%v: %v", row, ok)
		}
	}
}

// indices returns indices for a heap of so many chunks, right and wrong ones.
func indices(count int) []int {
	l := append([]int{-count, -9, -8, -2, -1, count, count + 1, 8, 9, 10, 80}, far...)
	for k := range count {
		l = append(l, k)
	}
	return l
}

// TestPut puts chunks of all lengths at all indices, into heaps that hold nothing, and into those that hold all.
func TestPut(t *testing.T) { // P1, P12.3
	lengths := []int{160, 255, 256, 336, 640, 641, 1 << 16}
	for n := range size + 10 {
		lengths = append(lengths, n)
	}
	for count := 1; count <= 8; count++ {
		for _, isFull := range []bool{false, true} {
			h, m := made(t, count), make(model, count)
			for k := range count {
				if isFull {
					want(t, "Put", h.Put(k, varied(size, k)), m.put(k, varied(size, k)))
				}
			}
			for _, k := range indices(count) {
				for _, n := range lengths {
					at := fmt.Sprint("Put ", k, " of ", count, ", ", n, " bytes")
					c := spare(varied(n, k+n))
					e := h.Put(k, c)
					want(t, at, e, m.put(k, c))
					if !bytes.Equal(c, varied(n, k+n)) {
						t.Errorf("%s: it changed them", at)
					}
					// What a wrong one leaves behind is looked at now and then, since there are many.
					if e == api.OK || n == size || n < 2 {
						wantHeld(t, at, h, m)
					}
				}
				want(t, "Put of nil", h.Put(k, nil), m.put(k, nil))
				wantHeld(t, fmt.Sprint("Put ", k, " of ", count, ", nil"), h, m)
				if isFull && isIndex(count, k) {
					want(t, "Put", h.Put(k, varied(size, k)), m.put(k, varied(size, k)))
				} else if isIndex(count, k) {
					want(t, "Lose", h.Lose(k), m.lose(k))
				}
			}
		}
	}
}

// TestLose loses chunks at all indices, once and twice, and puts them again.
func TestLose(t *testing.T) { // P1, P12.3, P12.4, P12.6
	for count := 1; count <= 8; count++ {
		h, m := made(t, count), make(model, count)
		lose := func(k int) {
			t.Helper()
			at := fmt.Sprint("Lose ", k, " of ", count)
			want(t, at, h.Lose(k), m.lose(k))
			wantHeld(t, at, h, m)
		}
		put := func(k, seed int) {
			t.Helper()
			at := fmt.Sprint("Put ", k, " of ", count)
			want(t, at, h.Put(k, varied(size, seed)), m.put(k, varied(size, seed)))
			wantHeld(t, at, h, m)
		}
		for _, k := range indices(count) {
			lose(k)
		}
		for k := range count {
			put(k, k)
		}
		for _, k := range indices(count) {
			lose(k)
			lose(k)
			if isIndex(count, k) {
				put(k, k+10)
			}
		}
		for k := range count {
			lose(k)
		}
		for k := range count {
			put(count-1-k, k+20)
		}
	}
}

// TestReplace puts a chunk twice, with other bytes, fewer and more of them.
func TestReplace(t *testing.T) { // P12.3
	for count := 1; count <= 8; count++ {
		h, m := made(t, count), make(model, count)
		for k := range count {
			want(t, "Put", h.Put(k, varied(size, k)), m.put(k, varied(size, k)))
		}
		for seed, n := range []int{80, 79, 1, 2, 80, 1, 80} {
			c := varied(n, seed+30)
			want(t, "Put", h.Put(count-1, c), m.put(count-1, c))
			wantHeld(t, fmt.Sprint(count, ": ", n), h, m)
		}
		want(t, "Put", h.Put(0, varied(size, 9)), m.put(0, varied(size, 9)))
		wantHeld(t, fmt.Sprint(count, ": the first"), h, m)
	}
}

// TestNone holds a single chunk of no bytes.
func TestNone(t *testing.T) { // P12.3, P12.4
	for _, c := range [][]byte{nil, {}} {
		h := made(t, 1)
		want(t, "Put", h.Put(0, c), api.OK)
		if c, ok := h.Get(0); !ok || len(c) != 0 {
			t.Errorf("%v, %v", c, ok)
		}
		if b, e := h.Whole(); e != api.OK || len(b) != 0 || len(h.Missing()) != 0 {
			t.Errorf("%v, %d", b, e)
		}
		want(t, "Lose", h.Lose(0), api.OK)
		wantHeld(t, "lost", h, make(model, 1))
		want(t, "Put", h.Put(0, c), api.OK)
		want(t, "Put", h.Put(0, []byte{5}), api.OK)
		wantHeld(t, "one byte", h, model{{5}})
		want(t, "Put", h.Put(0, c), api.OK)
		wantHeld(t, "none again", h, model{{}})
	}
}

// orders calls f with each order of the numbers below n.
func orders(n int, f func([]int)) {
	l := make([]int, n)
	var place func(k int)
	place = func(k int) {
		if k == n {
			f(l)
			return
		}
		for i := range n {
			if !slices.Contains(l[:k], i) {
				l[k] = i
				place(k + 1)
			}
		}
	}
	place(0)
}

// TestOrders puts the chunks of some bytes in each order.
func TestOrders(t *testing.T) { // P12.6
	for count := 1; count <= 8; count++ {
		for _, last := range []int{1, 79, 80} {
			if count == 8 && last == 79 {
				continue
			}
			b := varied((count-1)*size+last, count)
			chunks := chunksOf(b)
			orders(count, func(order []int) {
				h := made(t, count)
				for i, k := range order {
					if whole, e := h.Whole(); e != api.ErrChunk || whole != nil {
						t.Fatalf("%v, %d of them: %d bytes, %d", order, i, len(whole), e)
					}
					want(t, "Put", h.Put(k, chunks[k]), api.OK)
					if missing := slices.Sorted(slices.Values(order[i+1:])); !slices.Equal(h.Missing(), missing) {
						t.Fatalf("%v, %d of them: %v are missing", order, i+1, h.Missing())
					}
				}
				if whole, e := h.Whole(); e != api.OK || !bytes.Equal(whole, b) {
					t.Fatalf("%v: %d bytes, %d", order, len(whole), e)
				}
			})
		}
	}
}

// TestRepeats puts the chunks of some bytes in random orders and repeatedly, and loses one.
func TestRepeats(t *testing.T) { // P12.5, P12.6
	r := rand.New(rand.NewSource(3))
	for n := range most + 1 {
		b := varied(n, n)
		chunks := splitOf(t, b)
		h, m := made(t, len(chunks)), make(model, len(chunks))
		for len(m.missing()) > 0 {
			k := r.Intn(len(chunks))
			want(t, "Put", h.Put(k, chunks[k]), m.put(k, chunks[k]))
		}
		wantHeld(t, fmt.Sprint(n), h, m)
		if whole, e := h.Whole(); e != api.OK || !bytes.Equal(whole, b) {
			t.Errorf("%d: %d bytes, %d", n, len(whole), e)
		}
		k := r.Intn(len(chunks))
		want(t, "Lose", h.Lose(k), api.OK)
		if _, e := h.Whole(); e != api.ErrChunk || !slices.Equal(h.Missing(), []int{k}) {
			t.Errorf("%d without %d: %v, %d", n, k, h.Missing(), e)
		}
	}
}

// TestRandom compares heaps to the model, by random calls.
func TestRandom(t *testing.T) { // P12.3, P12.4
	r := rand.New(rand.NewSource(5))
	for range 400 {
		count := 1 + r.Intn(8)
		h, m := made(t, count), make(model, count)
		other, beside := made(t, count), make(model, count)
		for step := range 60 {
			k := r.Intn(count+2) - 1
			at := fmt.Sprint("step ", step, ": ", k, " of ", count)
			switch r.Intn(5) {
			case 0:
				want(t, at, h.Lose(k), m.lose(k))
			case 1:
				c := varied(r.Intn(size+2), step)
				want(t, at, h.Put(k, c), m.put(k, c))
			default:
				c := varied(size, step)
				want(t, at, h.Put(k, c), m.put(k, c))
			}
			if step%20 == 7 {
				want(t, at, other.Put(0, varied(size, step)), beside.put(0, varied(size, step)))
			}
			wantHeld(t, at, h, m)
			wantHeld(t, at+", the other one", other, beside)
		}
		if t.Failed() {
			return
		}
	}
}

// TestHeapMemory changes what a heap got and returned.
func TestHeapMemory(t *testing.T) { // P12.3, P12.4
	for count := 1; count <= 8; count++ {
		h, m := made(t, count), make(model, count)
		for k := range count {
			c := spare(varied(size, k))
			if k == count-1 {
				c = c[:size-9]
			}
			want(t, "Put", h.Put(k, c), m.put(k, c))
			spoil(c)
			wantHeld(t, fmt.Sprint(count, ": what was put is changed"), h, m)
		}
		for k := range count {
			c, _ := h.Get(k)
			d, _ := h.Get(k)
			spoil(c)
			wantHeld(t, fmt.Sprint(count, ": what Get returned is changed"), h, m)
			if !bytes.Equal(d, m[k]) {
				t.Errorf("%d: the results of Get share memory", count)
			}
		}
		b, _ := h.Whole()
		d, _ := h.Whole()
		spoil(b)
		wantHeld(t, fmt.Sprint(count, ": what Whole returned is changed"), h, m)
		if !bytes.Equal(d, slices.Concat(m...)) {
			t.Errorf("%d: the results of Whole share memory", count)
		}
		for k := range count {
			want(t, "Lose", h.Lose(k), m.lose(k))
		}
		l := h.Missing()
		for i := range l {
			l[i] = -7
		}
		wantHeld(t, fmt.Sprint(count, ": what Missing returned is changed"), h, m)
		want(t, "Put", h.Put(0, varied(size, 1)), m.put(0, varied(size, 1)))
		wantHeld(t, fmt.Sprint(count, ": put afterwards"), h, m)
	}
}

// TestOldResults keeps what a heap returned while it changes.
func TestOldResults(t *testing.T) { // P12.3, P12.4
	h := made(t, 2)
	want(t, "Put", h.Put(0, varied(size, 1)), api.OK)
	want(t, "Put", h.Put(1, varied(3, 1)), api.OK)
	c, _ := h.Get(1)
	whole, _ := h.Whole()
	none := h.Missing()
	want(t, "Put", h.Put(1, varied(3, 2)), api.OK)
	want(t, "Put", h.Put(0, varied(size, 2)), api.OK)
	want(t, "Lose", h.Lose(1), api.OK)
	if !bytes.Equal(c, varied(3, 1)) || !bytes.Equal(whole, append(varied(size, 1), varied(3, 1)...)) || len(none) != 0 {
		t.Errorf("%v, %v, %v", c, whole, none)
	}
}

// wantNil wants each call on the heap to tell that New did not return it.
func wantNil(t *testing.T, h *chunk.Heap) {
	t.Helper()
	for _, k := range append([]int{-1, 0, 1, 7, 8}, far...) {
		for _, n := range []int{0, 1, 79, 80, 81, 640, 641} {
			want(t, "Put", h.Put(k, make([]byte, n)), api.ErrNil)
		}
		want(t, "Put", h.Put(k, nil), api.ErrNil)
		want(t, "Lose", h.Lose(k), api.ErrNil)
		if c, ok := h.Get(k); c != nil || ok {
			t.Errorf("Get(%d): %v, %v", k, c, ok)
		}
	}
	if l := h.Missing(); len(l) != 0 {
		t.Errorf("Missing: %v", l)
	}
	if b, e := h.Whole(); e != api.ErrNil || b != nil {
		t.Errorf("Whole: %v, %d", b, e)
	}
}

// TestNil calls all on heaps that New did not return.
func TestNil(t *testing.T) { // P1, P12.3, P12.4
	wantNil(t, nil)
	wantNil(t, &chunk.Heap{})
	wantNil(t, new(chunk.Heap))
	for _, n := range []int{0, 9} {
		h, _ := chunk.New(n)
		wantNil(t, h)
	}
	h := made(t, 2)
	want(t, "Put", h.Put(0, varied(size, 1)), api.OK)
	c := *h
	wantNil(t, &c)
	wantHeld(t, "after the calls on a copy", h, model{varied(size, 1), nil})
}
