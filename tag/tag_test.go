package tag_test

import (
	"bytes"
	"math"
	"slices"
	"testing"

	"sexton/api"
	"sexton/tag"
)

// layout is the chapter's list of regions: number, places, sectors of each.
var layout = [][3]int{{1, 2, 1}, {2, 2, 1}, {3, 24, 1}, {4, 48, 2}, {5, 16, 2}}

var noRegions = []int{math.MinInt, math.MinInt + 1, -256, -5, -1, 0, 6, 7, 255, 256, 257, 1 << 32, math.MaxInt - 1, math.MaxInt}

const most = 1 << 40

// plain is a valid tag whose numbers all differ.
var plain = tag.Tag{Replica: 1, Region: 4, Place: 47, Index: 258, Incarnation: 3}

// bytesOf returns what the encoding of a tag would be, valid or not, each number cut down to its bytes.
func bytesOf(t tag.Tag) []byte {
	b := []byte{byte(t.Replica), byte(t.Region), byte(t.Place)}
	for _, n := range []int{t.Index, t.Incarnation} {
		for range 6 {
			b = append(b, byte(n%256))
			n /= 256
		}
	}
	return b
}

// validTags returns tags of each region and place, whose other numbers are at their bounds and between.
func validTags() []tag.Tag {
	var l []tag.Tag
	for _, r := range layout {
		for place := range r[1] {
			for _, replica := range []int{0, 1, 5, 6} {
				for _, index := range []int{0, 1, 255, 256, 0x0504030201, most - 1, most} {
					for _, incarnation := range []int{1, 2, 255, 256, 0x0908070605, most - 1, most} {
						l = append(l, tag.Tag{Replica: replica, Region: r[0], Place: place, Index: index, Incarnation: incarnation})
					}
				}
			}
		}
	}
	return l
}

// wrongTags returns tags with exactly one number out of its range.
func wrongTags() []tag.Tag {
	var l []tag.Tag
	far := []int{math.MinInt, math.MinInt + 1, -1 << 48, -1 << 40, -256, -255, -1, 1 << 48, 1<<48 + 1, 1 << 56, math.MaxInt - 1, math.MaxInt}
	for _, n := range append([]int{7, 8, 255, 256, 257, 262}, far...) {
		x := plain
		x.Replica = n
		l = append(l, x)
	}
	for _, n := range noRegions {
		x := plain
		x.Region, x.Place = n, 0
		l = append(l, x)
	}
	for _, r := range layout {
		for _, n := range append([]int{r[1], r[1] + 1, 48, 49, 255, 256, 257}, far...) {
			x := plain
			x.Region, x.Place = r[0], n
			l = append(l, x)
		}
	}
	for _, n := range append([]int{most + 1, most + 2, 2 * most, 1<<48 - 1}, far...) {
		x, y := plain, plain
		x.Index, y.Incarnation = n, n
		l = append(l, x, y)
	}
	x := plain
	x.Incarnation = 0
	return append(l, x)
}

func print(t *testing.T, x tag.Tag) []byte {
	t.Helper()
	b, e := tag.Print(x)
	if e != api.OK {
		t.Fatalf("Print(%v): error %d", x, e)
	}
	return b
}

func wantNoTag(t *testing.T, b []byte) {
	t.Helper()
	if x, e := tag.Parse(b); x != (tag.Tag{}) || e != api.ErrTag {
		t.Errorf("Parse(%v): %v, %d", b, x, e)
	}
}

func TestExample(t *testing.T) { // P3.1
	want := []byte{1, 4, 47, 2, 1, 0, 0, 0, 0, 3, 0, 0, 0, 0, 0}
	if b := print(t, plain); !bytes.Equal(b, want) {
		t.Errorf("Print(%v): %v", plain, b)
	}
	if x, e := tag.Parse(want); x != plain || e != api.OK {
		t.Errorf("Parse(%v): %v, %d", want, x, e)
	}
}

func TestValidTags(t *testing.T) { // P3.1, P3.4
	for _, x := range validTags() {
		if !tag.May(x) {
			t.Errorf("May(%v): false", x)
		}
		b := print(t, x)
		if !bytes.Equal(b, bytesOf(x)) {
			t.Errorf("Print(%v): %v", x, b)
		}
		if y, e := tag.Parse(b); y != x || e != api.OK {
			t.Errorf("Parse(%v): %v, %d; want %v", b, y, e, x)
		}
	}
}

func TestWrongTags(t *testing.T) { // P3.1, P3.6
	for _, x := range append(wrongTags(), tag.Tag{}) {
		if tag.May(x) {
			t.Errorf("May(%v): true", x)
		}
		if b, e := tag.Print(x); b != nil || e != api.ErrArg {
			t.Errorf("Print(%v): %v, %d", x, b, e)
		}
	}
}

func TestTagsWrongInManyNumbers(t *testing.T) { // P3.1
	wrong := []int{math.MinInt, -1, most + 1, 1 << 48, math.MaxInt}
	for _, a := range wrong {
		for _, b := range wrong {
			for i, x := range []tag.Tag{
				{Replica: a, Region: b, Incarnation: 1},
				{Region: a, Place: b, Incarnation: 1},
				{Region: a, Place: 1, Index: b, Incarnation: 1},
				{Region: 1, Place: a, Index: b, Incarnation: 1},
				{Region: 1, Index: a, Incarnation: b},
				{Replica: a, Region: 1, Incarnation: b},
				{Replica: a, Region: b, Place: a, Index: b, Incarnation: a},
			} {
				if y, e := tag.Print(x); tag.May(x) || y != nil || e != api.ErrArg {
					t.Errorf("%d: %v: %t, %v, %d", i, x, tag.May(x), y, e)
				}
			}
		}
	}
}

func TestBytesOfWrongTags(t *testing.T) { // P3.1, P3.6
	tried := 0
	for _, x := range append(wrongTags(), tag.Tag{}) {
		fits := func(n, bound int) bool { return 0 <= n && n < bound }
		if fits(x.Replica, 256) && fits(x.Region, 256) && fits(x.Place, 256) && fits(x.Index, 1<<48) && fits(x.Incarnation, 1<<48) {
			wantNoTag(t, bytesOf(x))
			tried++
		}
	}
	// Of each field some, of the incarnation also 0.
	if tried < 30 {
		t.Errorf("only %d tried", tried)
	}
}

func TestBytesOfEachWhoseAndWhere(t *testing.T) { // P3.1, P3.4, P3.6
	places := map[int]int{}
	for _, r := range layout {
		places[r[0]] = r[1]
	}
	for _, replica := range []int{0, 6, 7, 128, 255} {
		for region := range 256 {
			for place := range 256 {
				x := tag.Tag{Replica: replica, Region: region, Place: place, Index: 9, Incarnation: 8}
				b := bytesOf(x)
				if replica > 6 || place >= places[region] {
					wantNoTag(t, b)
				} else if y, e := tag.Parse(b); y != x || e != api.OK {
					t.Errorf("Parse(%v): %v, %d", b, y, e)
				} else if again := print(t, y); !bytes.Equal(again, b) {
					t.Errorf("Print(%v): %v", y, again)
				}
			}
		}
	}
}

func TestCutAndExtendedEncodings(t *testing.T) { // P3.1, P3.6
	wantNoTag(t, nil)
	for _, x := range []tag.Tag{plain, {Region: 1, Incarnation: 1}, {Replica: 6, Region: 5, Place: 15, Index: most, Incarnation: most}} {
		b := print(t, x)
		for n := range b {
			wantNoTag(t, b[:n])
			wantNoTag(t, b[n+1:])
		}
		for _, more := range [][]byte{{0}, {1}, {255}, {0, 0}, make([]byte, 49), b} {
			wantNoTag(t, slices.Concat(b, more))
			wantNoTag(t, slices.Concat(more, b))
		}
	}
	wantNoTag(t, make([]byte, 15))
	wantNoTag(t, bytes.Repeat([]byte{255}, 15))
	wantNoTag(t, make([]byte, 1<<20))
}

func TestPlacesAndWide(t *testing.T) { // P3.2
	for _, r := range layout {
		if tag.Places(r[0]) != r[1] || tag.Wide(r[0]) != r[2] {
			t.Errorf("region %d: %d of %d", r[0], tag.Places(r[0]), tag.Wide(r[0]))
		}
	}
	for _, region := range noRegions {
		if tag.Places(region) != 0 || tag.Wide(region) != 0 {
			t.Errorf("region %d: %d of %d", region, tag.Places(region), tag.Wide(region))
		}
	}
}

func TestAll(t *testing.T) { // P3.2
	if n := tag.All(); n != 156 {
		t.Errorf("All: %d", n)
	}
}

func TestFirst(t *testing.T) { // P3.3
	for _, x := range [][3]int{
		{1, 0, 0}, {1, 1, 1}, {1, 2, -1},
		{2, 0, 2}, {2, 1, 3}, {2, 2, -1},
		{3, 0, 4}, {3, 23, 27}, {3, 24, -1},
		{4, 0, 28}, {4, 1, 30}, {4, 47, 122}, {4, 48, -1},
		{5, 0, 124}, {5, 8, 140}, {5, 15, 154}, {5, 16, -1},
	} {
		if n := tag.First(x[0], x[1]); n != x[2] {
			t.Errorf("First(%d, %d): %d, want %d", x[0], x[1], n, x[2])
		}
	}
}

func TestFirstOfNoPlace(t *testing.T) { // P3.3
	wrong := func(region, place int) {
		if n := tag.First(region, place); n != -1 {
			t.Errorf("First(%d, %d): %d", region, place, n)
		}
	}
	for _, region := range noRegions {
		for _, place := range []int{math.MinInt, -1, 0, 1, 2, 47, math.MaxInt} {
			wrong(region, place)
		}
	}
	for _, r := range layout {
		for _, place := range []int{math.MinInt, math.MinInt + 1, -r[1], -2, -1, r[1], r[1] + 1, 48, 156, math.MaxInt / 2, math.MaxInt - 1, math.MaxInt} {
			wrong(r[0], place)
		}
	}
}

func TestWhere(t *testing.T) { // P3.3
	for _, x := range [][4]int{
		{0, 1, 0, 0}, {1, 1, 1, 0},
		{2, 2, 0, 0}, {3, 2, 1, 0},
		{4, 3, 0, 0}, {5, 3, 1, 0}, {27, 3, 23, 0},
		{28, 4, 0, 0}, {29, 4, 0, 1}, {30, 4, 1, 0}, {31, 4, 1, 1}, {122, 4, 47, 0}, {123, 4, 47, 1},
		{124, 5, 0, 0}, {125, 5, 0, 1}, {154, 5, 15, 0}, {155, 5, 15, 1},
	} {
		if region, place, behind, ok := tag.Where(x[0]); region != x[1] || place != x[2] || behind != x[3] || !ok {
			t.Errorf("Where(%d): %d, %d, %d, %t", x[0], region, place, behind, ok)
		}
	}
}

func TestWhereOfNoSector(t *testing.T) { // P3.3, P3.5
	for _, sector := range []int{math.MinInt, math.MinInt + 1, math.MinInt + 155, -157, -156, -155, -2, -1, 156, 157, 158, 256, 312, 1 << 32, math.MaxInt - 1, math.MaxInt} {
		if region, place, behind, ok := tag.Where(sector); region != 0 || place != 0 || behind != 0 || ok {
			t.Errorf("Where(%d): %d, %d, %d, %t", sector, region, place, behind, ok)
		}
	}
}

func TestEachSectorOnce(t *testing.T) { // P3.3, P3.5
	type place struct{ region, place, behind int }
	owner := map[int]place{}
	next := 0
	for region := -1; region <= 7; region++ {
		for p := range tag.Places(region) {
			if first := tag.First(region, p); first != next {
				t.Errorf("First(%d, %d): %d, want %d", region, p, first, next)
			}
			for behind := range tag.Wide(region) {
				owner[next] = place{region, p, behind}
				next++
			}
		}
	}
	if next != 156 || len(owner) != 156 {
		t.Errorf("%d sectors, %d of them with a place", next, len(owner))
	}
	for sector := range 156 {
		region, p, behind, ok := tag.Where(sector)
		if (place{region, p, behind}) != owner[sector] || !ok {
			t.Errorf("Where(%d): %d, %d, %d, %t; want %v", sector, region, p, behind, ok, owner[sector])
		}
	}
}

func TestNothingIsSharedOrKept(t *testing.T) { // P3.1
	a, b := print(t, plain), print(t, plain)
	kept := bytes.Clone(b)
	clear(a[:cap(a)])
	if !bytes.Equal(b, kept) {
		t.Errorf("the second encoding: %v", b)
	}
	if c := print(t, plain); !bytes.Equal(c, kept) {
		t.Errorf("the third encoding: %v", c)
	}
	x, e := tag.Parse(b)
	if !bytes.Equal(b, kept) {
		t.Errorf("Parse changed its argument: %v", b)
	}
	clear(b)
	if x != plain || e != api.OK {
		t.Errorf("Parse: %v, %d", x, e)
	}
}

// TestStretchedSlice holds Parse to the bytes of the slice: those behind its length, up to its capacity, are none of them.
func TestStretchedSlice(t *testing.T) { // P3.1
	b := append(make([]byte, 0, 64), print(t, plain)...)
	b = append(b, 7, 7, 7)
	if x, e := tag.Parse(b[:15]); x != plain || e != api.OK {
		t.Errorf("Parse: %v, %d", x, e)
	}
	wantNoTag(t, b[:14])
	wantNoTag(t, b[:16])
}
