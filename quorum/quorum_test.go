package quorum_test

import (
	"math"
	"math/rand"
	"slices"
	"testing"

	"sexton/quorum"
)

// The numbers that are tried: as replicas, and as numbers of replicas. Some are right in their lowest bits only.
var (
	numbers = []int{math.MinInt, math.MinInt + 1, math.MinInt + 2, -1 << 40, -1<<32 + 1, -256, -255, -64, -8, -7, -6, -2, -1, 0, 1, 2, 3, 4, 5, 6, 7, 8, 9, 10, 31, 32, 33, 63, 64, 65, 70, 127, 128, 255, 256, 257, 262, 1 << 32, 1<<32 + 1, 1 << 40, math.MaxInt - 1, math.MaxInt}
	wrong   = []int{math.MinInt, math.MinInt + 3, -1<<32 + 3, -253, -251, -249, -7, -5, -3, -2, -1, 0, 1, 2, 4, 6, 8, 9, 11, 13, 15, 35, 64, 67, 255, 259, 261, 263, 1<<32 + 3, 1<<32 + 5, 1<<32 + 7, 1 << 40, math.MaxInt - 1, math.MaxInt}
	sizes   = []int{3, 5, 7}
)

// all returns each value that a Set can have.
func all() []quorum.Set {
	var l []quorum.Set
	for i := range 256 {
		l = append(l, quorum.Set(i))
	}
	return l
}

// contains and membersOf are the chapter's definitions, told anew, by dividing.
func contains(s quorum.Set, i int) bool {
	if i < 0 || i > 6 {
		return false
	}
	rest := int(s)
	for range i {
		rest /= 2
	}
	return rest%2 == 1
}

func membersOf(s quorum.Set, n int) []int {
	var l []int
	for i := range n {
		if contains(s, i) {
			l = append(l, i)
		}
	}
	return l
}

func wantOf(t *testing.T, want quorum.Set, l ...int) {
	t.Helper()
	if s := quorum.Of(l...); s != want {
		t.Errorf("Of(%v): %d; want %d", l, s, want)
	}
}

func wantMembers(t *testing.T, s quorum.Set, n int, want ...int) {
	t.Helper()
	if l := s.Members(n); !slices.Equal(l, want) {
		t.Errorf("%d, Members(%d): %v; want %v", s, n, l, want)
	}
}

func wantEnough(t *testing.T, s quorum.Set, n int, want bool) {
	t.Helper()
	if s.Enough(n) != want {
		t.Errorf("%d, Enough(%d): %t", s, n, !want)
	}
}

func TestExamples(t *testing.T) { // P15.1, P15.2, P15.3
	for _, x := range []struct{ n, want int }{{3, 2}, {5, 3}, {7, 4}, {4, 0}} {
		if m := quorum.Most(x.n); m != x.want {
			t.Errorf("Most(%d): %d; want %d", x.n, m, x.want)
		}
	}
	s := quorum.Of(0, 2, 9)
	if s != 5 || !s.Has(2) || s.Has(1) || s.Has(9) {
		t.Errorf("Of(0, 2, 9): %d", s)
	}
	s = quorum.Of(0, 2, 4)
	wantMembers(t, s, 3, 0, 2)
	wantEnough(t, s, 3, true)
	wantEnough(t, s, 5, true)
	wantEnough(t, s, 7, false)
}

func TestMost(t *testing.T) { // P15.1
	for _, n := range sizes {
		m := quorum.Most(n)
		if 2*m <= n || 2*(m-1) > n {
			t.Errorf("Most(%d): %d", n, m)
		}
	}
	for _, n := range wrong {
		if m := quorum.Most(n); m != 0 {
			t.Errorf("Most(%d): %d", n, m)
		}
	}
	for n := -1000; n <= 1000; n++ {
		if m := quorum.Most(n); (m != 0) != slices.Contains(sizes, n) {
			t.Errorf("Most(%d): %d", n, m)
		}
	}
}

func TestHas(t *testing.T) { // P15.2
	for _, s := range all() {
		for _, i := range numbers {
			if want := contains(s, i); s.Has(i) != want {
				t.Errorf("%d, Has(%d): %t", s, i, !want)
			}
		}
		for i := -300; i <= 300; i++ {
			if want := contains(s, i); s.Has(i) != want {
				t.Errorf("%d, Has(%d): %t", s, i, !want)
			}
		}
	}
}

// TestHasRows has the bits written out, 7 among them, which is nobody's.
func TestHasRows(t *testing.T) { // P15.2
	for i, s := range []quorum.Set{1, 2, 4, 8, 16, 32, 64} {
		if !s.Has(i) || !(s + 128).Has(i) || (255 - s).Has(i) {
			t.Errorf("%d: Has(%d)", s, i)
		}
	}
	for _, s := range []quorum.Set{0, 1, 64, 127, 128, 129, 192, 255} {
		for _, i := range []int{math.MinInt, -1, 7, 8, math.MaxInt} {
			if s.Has(i) {
				t.Errorf("%d, Has(%d): true", s, i)
			}
		}
	}
}

func TestAdd(t *testing.T) { // P15.2
	for _, s := range all() {
		for _, i := range numbers {
			want := s
			if 0 <= i && i <= 6 && !contains(s, i) {
				want += []quorum.Set{1, 2, 4, 8, 16, 32, 64}[i]
			}
			if x := s.Add(i); x != want {
				t.Errorf("%d, Add(%d): %d; want %d", s, i, x, want)
			}
			if x := s.Add(i).Add(i); x != want {
				t.Errorf("%d, Add(%d) twice: %d; want %d", s, i, x, want)
			}
		}
	}
}

// TestAddAndHas asks the package's own calls: what was added is in the set, and all else is as before.
func TestAddAndHas(t *testing.T) { // P15.2
	for _, s := range all() {
		for _, i := range numbers {
			x := s.Add(i)
			for _, k := range numbers {
				if want := s.Has(k) || k == i && 0 <= i && i <= 6; x.Has(k) != want {
					t.Errorf("%d, Add(%d), Has(%d): %t", s, i, k, !want)
				}
			}
		}
	}
}

func TestOf(t *testing.T) { // P15.2
	wantOf(t, 0)
	wantOf(t, 0, []int(nil)...)
	wantOf(t, 0, []int{}...)
	for _, x := range []struct {
		l    []int
		want quorum.Set
	}{
		{[]int{0}, 1}, {[]int{6}, 64}, {[]int{3, 3}, 8}, {[]int{3, 3, 3}, 8}, {[]int{0, 6}, 65}, {[]int{6, 0}, 65},
		{[]int{-1}, 0}, {[]int{7}, 0}, {[]int{8}, 0}, {[]int{-1, 0, 6, 7, 8}, 65}, {[]int{8, 7, 6, 0, -1}, 65},
		{[]int{1, -1, 1, 7, 2}, 6}, {[]int{0, 1, 2, 3, 4, 5, 6}, 127}, {[]int{6, 5, 4, 3, 2, 1, 0}, 127},
		{[]int{math.MinInt, 5, math.MaxInt}, 32}, {[]int{math.MaxInt, math.MinInt}, 0}, {numbers, 127},
	} {
		wantOf(t, x.want, x.l...)
	}
}

func TestOfEachSet(t *testing.T) { // P15.2
	r := rand.New(rand.NewSource(1))
	for _, s := range all()[:128] {
		l := membersOf(s, 7)
		wantOf(t, s, l...)
		slices.Reverse(l)
		wantOf(t, s, l...)
		for range 20 {
			many := slices.Concat(l, l, []int{-1, 7, 8, math.MinInt, math.MaxInt})
			r.Shuffle(len(many), func(i, k int) { many[i], many[k] = many[k], many[i] })
			wantOf(t, s, many...)
		}
	}
}

// TestOfFew has each three of the numbers that are tried.
func TestOfFew(t *testing.T) { // P15.2
	for _, a := range numbers {
		for _, b := range numbers {
			for _, c := range numbers {
				s := quorum.Of(a, b, c)
				for i := range 8 {
					if want := i < 7 && (i == a || i == b || i == c); s.Has(i) != want || (s>>i)%2 == 1 != want {
						t.Errorf("Of(%d, %d, %d): %d", a, b, c, s)
					}
				}
			}
		}
	}
}

func TestOfKeepsItsArguments(t *testing.T) { // P15.2, rules that hold everywhere
	whole := []int{6, 0, 7, -1, 0, 3, 4}
	before := slices.Clone(whole)
	wantOf(t, 65, whole[:5]...)
	if !slices.Equal(whole, before) {
		t.Errorf("the list was %v, and is %v", before, whole)
	}
}

func TestMembers(t *testing.T) { // P15.3
	for _, s := range all() {
		for _, n := range sizes {
			wantMembers(t, s, n, membersOf(s, n)...)
		}
		for _, n := range wrong {
			wantMembers(t, s, n)
		}
	}
}

// TestMembersRows has the edges written out: members at n-1, at n and above, and bit 7.
func TestMembersRows(t *testing.T) { // P15.3
	wantMembers(t, 0, 3)
	wantMembers(t, quorum.Of(2), 3, 2)
	wantMembers(t, quorum.Of(3), 3)
	wantMembers(t, quorum.Of(2, 3, 4, 6), 3, 2)
	wantMembers(t, quorum.Of(4), 5, 4)
	wantMembers(t, quorum.Of(5), 5)
	wantMembers(t, quorum.Of(6, 5, 4, 0), 5, 0, 4)
	wantMembers(t, quorum.Of(6), 7, 6)
	wantMembers(t, quorum.Of(6, 1, 5), 7, 1, 5, 6)
	wantMembers(t, 128, 7)
	wantMembers(t, 192, 7, 6)
	wantMembers(t, 255, 3, 0, 1, 2)
	wantMembers(t, 255, 5, 0, 1, 2, 3, 4)
	wantMembers(t, 255, 7, 0, 1, 2, 3, 4, 5, 6)
	for _, n := range []int{math.MinInt, -7, -3, -1, 0, 1, 2, 4, 6, 8, 9, 64, math.MaxInt} {
		wantMembers(t, 127, n)
		wantMembers(t, 255, n)
	}
}

func TestMembersShareNothing(t *testing.T) { // P15.3, rules that hold everywhere
	for _, n := range sizes {
		s := quorum.Set(255)
		a, b := s.Members(n), s.Members(n)
		before := slices.Clone(b)
		clear(a)
		_ = append(a[:0], 9, 9, 9)
		if !slices.Equal(b, before) {
			t.Errorf("Members(%d): %v, and %v after a change of another answer", n, before, b)
		}
		wantMembers(t, s, n, before...)
	}
}

func TestEnough(t *testing.T) { // P15.3
	for _, s := range all() {
		for _, n := range sizes {
			wantEnough(t, s, n, 2*len(membersOf(s, n)) > n)
		}
		for _, n := range wrong {
			wantEnough(t, s, n, false)
		}
	}
}

// TestEnoughRows has just a majority, one replica less, and all; and sets with enough replicas, but too few below n.
func TestEnoughRows(t *testing.T) { // P15.3
	for _, x := range []struct {
		l    []int
		n    int
		want bool
	}{
		{nil, 3, false}, {[]int{0}, 3, false}, {[]int{2}, 3, false}, {[]int{0, 1}, 3, true}, {[]int{1, 2}, 3, true}, {[]int{0, 1, 2}, 3, true},
		{nil, 5, false}, {[]int{3, 4}, 5, false}, {[]int{0, 1, 2}, 5, true}, {[]int{2, 3, 4}, 5, true}, {[]int{0, 1, 2, 3, 4}, 5, true},
		{nil, 7, false}, {[]int{4, 5, 6}, 7, false}, {[]int{0, 1, 2, 3}, 7, true}, {[]int{3, 4, 5, 6}, 7, true}, {[]int{0, 1, 2, 3, 4, 5, 6}, 7, true},
		{[]int{2, 3}, 3, false}, {[]int{3, 4, 5, 6}, 3, false}, {[]int{1, 3, 4, 5, 6}, 3, false}, {[]int{1, 2, 3}, 3, true},
		{[]int{3, 4, 5}, 5, false}, {[]int{3, 4, 5, 6}, 5, false}, {[]int{0, 3, 4, 6}, 5, true},
		{[]int{4, 5, 6, 7}, 7, false}, {[]int{4, 5, 6, 7, 8}, 7, false},
	} {
		wantEnough(t, quorum.Of(x.l...), x.n, x.want)
	}
	wantEnough(t, 128+1, 3, false)
	wantEnough(t, 128+64+32+16, 7, false)
	wantEnough(t, 128+64+32+16+8, 7, true)
	for _, n := range []int{math.MinInt, -7, -3, -1, 0, 1, 2, 4, 6, 8, 9, 64, math.MaxInt} {
		wantEnough(t, 0, n, false)
		wantEnough(t, 127, n, false)
		wantEnough(t, 255, n, false)
	}
}

// TestEnoughIsMost asks the package's own calls.
func TestEnoughIsMost(t *testing.T) { // P15.1, P15.3
	for _, s := range all() {
		for _, n := range sizes {
			wantEnough(t, s, n, len(s.Members(n)) >= quorum.Most(n))
		}
	}
}

func TestIntersection(t *testing.T) { // P15.4
	for _, n := range sizes {
		for _, a := range all() {
			for _, b := range all() {
				if !a.Enough(n) || !b.Enough(n) {
					continue
				}
				if !slices.ContainsFunc(a.Members(n), b.Has) {
					t.Errorf("of %d: %v and %v are majorities", n, a.Members(n), b.Members(n))
				}
			}
		}
	}
}

func TestComplement(t *testing.T) { // P15.5
	for _, n := range sizes {
		for _, s := range all() {
			var rest []int
			for i := range n {
				if !s.Has(i) {
					rest = append(rest, i)
				}
			}
			if other := quorum.Of(rest...); s.Enough(n) == other.Enough(n) || s.Enough(n) == (^s).Enough(n) {
				t.Errorf("of %d: %v, %v", n, s.Members(n), rest)
			}
		}
	}
}

// TestMajoritiesGrow adds replicas one by one, in some order: a set is a majority from Most on, and stays one.
func TestMajoritiesGrow(t *testing.T) { // P15.1, P15.2, P15.3
	r := rand.New(rand.NewSource(2))
	for _, n := range sizes {
		for range 200 {
			var s quorum.Set
			for k, i := range r.Perm(n) {
				wantEnough(t, s, n, k >= quorum.Most(n))
				s = s.Add(i).Add(n).Add(-1)
			}
			wantEnough(t, s, n, true)
		}
	}
}
