package meta_test

import (
	"bytes"
	"fmt"
	"math"
	"math/rand"
	"slices"
	"strings"
	"testing"

	"sexton/api"
	"sexton/cell"
	"sexton/disk"
	"sexton/frame"
	"sexton/ghost"
	"sexton/meta"
	"sexton/tag"
)

const (
	wide      = 64  // bytes of a sector
	all       = 156 // sectors of all regions
	most      = 1024
	room      = 43 // bytes of a copy's body
	maxNumber = 1 << 40
)

// far holds the numbers that are farthest from all that are right, and some that are right in their lowest bits.
var far = []int{math.MinInt, math.MinInt + 1, -1 << 40, -1<<32 + 1, -256, math.MaxInt - 1, math.MaxInt, 1 << 62, 1<<48 - 1, 1 << 48, 1<<48 + 1, 1<<56 + 3}

var (
	rounds        = append([]int{-2, -1, 0, 1, 2, 3, 255, 256, 257, 1 << 16, 1<<32 - 1, 1 << 32, maxNumber - 1, maxNumber, maxNumber + 1, maxNumber + 2}, far...)
	replicas      = append([]int{-2, -1, 0, 1, 2, 5, 6, 7, 8, 255, 256, 257, 262, 1<<16 + 1, 1<<32 + 6, maxNumber}, far...)
	incarnations  = append([]int{-2, -1, 0, 1, 2, 254, 255, 256, 1 << 16, 1 << 32, maxNumber - 1, maxNumber, maxNumber + 1, maxNumber + 2}, far...)
	wrongReplicas = append([]int{-2, -1, 7, 8, 255, 256, 1 << 16, 1<<32 + 1, maxNumber}, far...)
)

var none api.Ballot

func want(t *testing.T, call string, e, wanted api.Errno) {
	t.Helper()
	if e != wanted {
		t.Errorf("%s: %d; want %d", call, e, wanted)
	}
}

func made(t *testing.T, sectors int) *disk.Disk {
	t.Helper()
	d, e := disk.New(sectors)
	if e != api.OK {
		t.Fatalf("New(%d): %d", sectors, e)
	}
	return d
}

// ballot and of are short for a ballot, and for metadata.
func ballot(round, replica int) api.Ballot { return api.Ballot{Round: round, Replica: replica} }

func of(round, replica, incarnation int) meta.Meta {
	return meta.Meta{Promised: ballot(round, replica), Incarnation: incarnation}
}

// isValid, isAbove, raw, encoded and decoded are the chapter's definitions, told anew.
func isValid(m meta.Meta) bool {
	b := m.Promised
	named := b.Round >= 1 && b.Round <= maxNumber && b.Replica >= 0 && b.Replica <= 6
	return (b == none || named) && m.Incarnation >= 1 && m.Incarnation <= maxNumber
}

func isAbove(b, other api.Ballot) bool {
	return b.Round > other.Round || b.Round == other.Round && b.Replica > other.Replica
}

func raw(round, replica, incarnation int) []byte {
	b := make([]byte, 13)
	for i := range 6 {
		b[i], b[7+i] = byte(round>>(8*i)), byte(incarnation>>(8*i))
	}
	b[6] = byte(replica)
	return b
}

func encoded(m meta.Meta) []byte { return raw(m.Promised.Round, m.Promised.Replica, m.Incarnation) }

func decoded(b []byte) (meta.Meta, api.Errno) {
	if len(b) != 13 {
		return meta.Meta{}, api.ErrMeta
	}
	m := meta.Meta{Promised: api.Ballot{Replica: int(b[6])}}
	for i := range 6 {
		m.Promised.Round |= int(b[i]) << (8 * i)
		m.Incarnation |= int(b[7+i]) << (8 * i)
	}
	if !isValid(m) {
		return meta.Meta{}, api.ErrMeta
	}
	return m, api.OK
}

func TestExamples(t *testing.T) { // P8.1, P8.2, P8.3
	d := made(t, all)
	m, e := meta.Begin(d, 0)
	if e != api.OK || m != of(0, 0, 1) {
		t.Errorf("Begin: %v, %d", m, e)
	}
	m, e = meta.Promise(d, 0, m, ballot(2, 1))
	if e != api.OK || m != of(2, 1, 1) {
		t.Errorf("Promise of 2 1: %v, %d", m, e)
	}
	if x, e := meta.Promise(d, 0, m, ballot(2, 0)); e != api.ErrArg || x != (meta.Meta{}) {
		t.Errorf("Promise of 2 0: %v, %d", x, e)
	}
	m, e = meta.Begin(d, 0)
	if e != api.OK || m != of(2, 1, 2) {
		t.Errorf("Begin: %v, %d", m, e)
	}
	b, e := meta.Print(of(2, 1, 1))
	if e != api.OK || !bytes.Equal(b, []byte{2, 0, 0, 0, 0, 0, 1, 1, 0, 0, 0, 0, 0}) {
		t.Errorf("Print: %v, %d", b, e)
	}
	m, e = meta.Parse(b)
	if e != api.OK || m != of(2, 1, 1) {
		t.Errorf("Parse: %v, %d", m, e)
	}
}

// eachMeta names metadata of each number at all the edges, valid ones and others.
func eachMeta(f func(m meta.Meta)) {
	for _, round := range rounds {
		for _, replica := range replicas {
			for _, incarnation := range incarnations {
				f(of(round, replica, incarnation))
			}
		}
	}
}

// TestForms asks for each number at its bounds and beyond them, beside each other one.
func TestForms(t *testing.T) { // P8.1, P8.4
	right, wrong := 0, 0
	eachMeta(func(m meta.Meta) {
		valid := isValid(m)
		if meta.May(m) != valid {
			t.Fatalf("May of %v: %v", m, !valid)
		}
		b, e := meta.Print(m)
		if !valid {
			wrong++
			if b != nil || e != api.ErrArg {
				t.Fatalf("Print of %v: %v, %d", m, b, e)
			}
			return
		}
		right++
		if e != api.OK || !bytes.Equal(b, encoded(m)) {
			t.Fatalf("Print of %v: %v, %d", m, b, e)
		}
		if x, e := meta.Parse(b); x != m || e != api.OK {
			t.Fatalf("Parse of %v: %v, %d; want %v", b, x, e, m)
		}
	})
	if right < 400 || wrong < 10000 {
		t.Errorf("%d right ones, %d wrong ones", right, wrong)
	}
}

// TestBounds names the bounds of each number once more, one by one.
func TestBounds(t *testing.T) { // P8.1
	for _, m := range []meta.Meta{of(0, 0, 1), of(0, 0, maxNumber), of(1, 0, 1), of(1, 6, 1), of(maxNumber, 0, 1), of(maxNumber, 6, maxNumber)} {
		if !meta.May(m) {
			t.Errorf("May of %v: false", m)
		}
	}
	for _, m := range []meta.Meta{
		{}, of(0, 0, 0), of(0, 0, -1), of(0, 0, maxNumber+1), of(1, 0, 0), of(1, 0, maxNumber+1),
		of(0, 1, 1), of(0, 6, 1), of(0, -1, 1), of(0, 7, 1), of(-1, 0, 1), of(maxNumber+1, 0, 1),
		of(1, -1, 1), of(1, 7, 1), of(maxNumber, 7, 1), of(1<<48+1, 0, 1), of(1, 256, 1), of(1, 0, 1<<48+1),
	} {
		if meta.May(m) {
			t.Errorf("May of %v: true", m)
		}
	}
}

// wantParse wants bytes to be parsed as the chapter defines it, and what is parsed to be printed as the same bytes.
func wantParse(t *testing.T, b []byte) api.Errno {
	t.Helper()
	before := bytes.Clone(b)
	wanted, w := decoded(b)
	m, e := meta.Parse(b)
	if m != wanted || e != w {
		t.Fatalf("Parse of %v: %v, %d; want %v, %d", b, m, e, wanted, w)
	}
	if !bytes.Equal(b, before) {
		t.Fatalf("Parse has changed %v to %v", before, b)
	}
	if e != api.OK {
		return e
	}
	if again, e := meta.Print(m); e != api.OK || !bytes.Equal(again, b) {
		t.Fatalf("Print of %v: %v, %d; want %v", m, again, e, b)
	}
	return e
}

// someForms holds encodings of valid metadata.
func someForms() [][]byte {
	var l [][]byte
	for _, m := range []meta.Meta{of(0, 0, 1), of(0, 0, maxNumber), of(1, 0, 1), of(2, 1, 1), of(255, 6, 256), of(1<<33+5, 3, 1<<39+7), of(maxNumber, 6, maxNumber), of(maxNumber-1, 5, maxNumber-1)} {
		l = append(l, encoded(m))
	}
	return l
}

// TestWrongForms parses encodings of numbers that fit their bytes, valid or not.
func TestWrongForms(t *testing.T) { // P8.1, P8.4
	told := map[api.Errno]int{}
	for _, round := range rounds {
		for _, replica := range replicas {
			for _, incarnation := range incarnations {
				told[wantParse(t, raw(round, replica, incarnation))]++
			}
		}
	}
	if told[api.OK] < 400 || told[api.ErrMeta] < 4000 || len(told) != 2 {
		t.Errorf("%v", told)
	}
}

// TestTruncatedAndExtended parses encodings that lack bytes, and such as have some more.
func TestTruncatedAndExtended(t *testing.T) { // P8.1, P8.4
	wantParse(t, nil)
	wantParse(t, []byte{})
	for _, b := range someForms() {
		want(t, "parse", wantParse(t, b), api.OK)
		for n := range b {
			want(t, "the first bytes", wantParse(t, b[:n]), api.ErrMeta)
			want(t, "the first bytes, cut off", wantParse(t, b[:n:n]), api.ErrMeta)
			want(t, "the last bytes", wantParse(t, b[n+1:]), api.ErrMeta)
			want(t, "without a byte", wantParse(t, slices.Delete(bytes.Clone(b), n, n+1)), api.ErrMeta)
		}
		for n := range 60 {
			for _, x := range []byte{0, 1, 255} {
				more := bytes.Repeat([]byte{x}, n+1)
				want(t, "more behind", wantParse(t, slices.Concat(b, more)), api.ErrMeta)
				want(t, "more before", wantParse(t, slices.Concat(more, b)), api.ErrMeta)
			}
		}
		want(t, "twice", wantParse(t, slices.Concat(b, b)), api.ErrMeta)
	}
}

// TestEachByte parses encodings each byte of which is each number.
func TestEachByte(t *testing.T) { // P8.1, P8.4
	for _, b := range someForms() {
		for i := range b {
			for x := range 256 {
				c := bytes.Clone(b)
				c[i] = byte(x)
				wantParse(t, c)
			}
		}
	}
}

// TestAnyBytes parses bytes at random, most of them zero.
func TestAnyBytes(t *testing.T) { // P8.1, P8.4
	r := rand.New(rand.NewSource(8))
	told := map[api.Errno]int{}
	for range 100000 {
		b := make([]byte, 13)
		if r.Intn(20) == 0 {
			b = make([]byte, r.Intn(30))
		}
		for range r.Intn(5) {
			if len(b) > 0 {
				b[r.Intn(len(b))] = byte(r.Intn(256) >> r.Intn(8))
			}
		}
		told[wantParse(t, b)]++
	}
	if told[api.OK] < 2000 || told[api.ErrMeta] < 2000 {
		t.Errorf("%v", told)
	}
}

// TestFormsAreTheCallersOwn changes what Print returned.
func TestFormsAreTheCallersOwn(t *testing.T) { // P8.1
	for _, form := range someForms() {
		m, _ := decoded(form)
		b, _ := meta.Print(m)
		c, _ := meta.Print(m)
		for i := range b[:cap(b)] {
			b[:cap(b)][i]++
		}
		b = append(b, 1, 2, 3)
		if !bytes.Equal(c, form) {
			t.Errorf("told before, %d bytes changed: %v", len(b), c)
		}
		wantParse(t, c)
		if c, _ = meta.Print(m); !bytes.Equal(c, form) {
			t.Errorf("told after: %v", c)
		}
	}
}

// sealed returns the bytes of a copy.
func sealed(t *testing.T, x tag.Tag, body []byte) []byte {
	t.Helper()
	b, e := frame.Seal(x, body, 1)
	if e != api.OK {
		t.Fatalf("Seal of %v, %v: %d", x, body, e)
	}
	return b
}

// put writes a sector, and flushes.
func put(t *testing.T, d *disk.Disk, sector int, b []byte) {
	t.Helper()
	want(t, "write", d.Write(sector, b), api.OK)
	want(t, "flush", d.Flush(), api.OK)
}

// filled returns n bytes, none of them zero.
func filled(n int, x byte) []byte {
	b := make([]byte, n)
	for i := range b {
		b[i] = x + byte(i%7) + 1
	}
	return b
}

// atRest returns what all sectors hold at rest, as one text.
func atRest(d *disk.Disk) string { return firstAtRest(d, d.Size()) }

// nearRest returns the same of the metadata, of the manifest, and of a few sectors behind them.
func nearRest(d *disk.Disk) string { return firstAtRest(d, min(d.Size(), 8)) }

func firstAtRest(d *disk.Disk, sectors int) string {
	var s strings.Builder
	for sector := range sectors {
		b, lost, _ := d.Rest(sector)
		s.Write(b)
		if lost {
			s.WriteString("lost")
		}
		s.WriteByte('|')
	}
	return s.String()
}

// view is all that a disk shows.
type view struct {
	size, waits int
	up          bool
	rest, read  string
	lost        string
}

func viewOf(d *disk.Disk) view {
	var read, meant strings.Builder
	for sector := range d.Size() {
		b, e := d.Read(sector)
		read.Write(b)
		read.WriteByte('0' + byte(e))
		b, _ = d.Meant(sector)
		meant.Write(b)
	}
	return view{d.Size(), d.Waits(), d.Up(), atRest(d), read.String(), meant.String()}
}

// wantCopies wants both places of the metadata to hold the same copy at rest.
func wantCopies(t *testing.T, d *disk.Disk, replica, version, incarnation int, body []byte) {
	t.Helper()
	for place := range 2 {
		x := tag.Tag{Replica: replica, Region: 1, Place: place, Index: version, Incarnation: incarnation}
		b, lost, e := d.Rest(place)
		if lost || e != api.OK || !bytes.Equal(b, sealed(t, x, body)) {
			state, y, other := frame.Open(b)
			t.Errorf("at rest: %d, %v, %v, lost: %v; want %v, %v", state, y, other, lost, x, body)
		}
	}
}

// wantBegin wants Begin to return metadata, and these to be stored with a version.
func wantBegin(t *testing.T, d *disk.Disk, replica int, wanted meta.Meta, version int) {
	t.Helper()
	if m, e := meta.Begin(d, replica); m != wanted || e != api.OK {
		t.Errorf("Begin of %d: %v, %d; want %v", replica, m, e, wanted)
	}
	wantCopies(t, d, replica, version, wanted.Incarnation, encoded(wanted))
}

func wantBeginError(t *testing.T, d *disk.Disk, replica int, wanted api.Errno) {
	t.Helper()
	if m, e := meta.Begin(d, replica); m != (meta.Meta{}) || e != wanted {
		t.Errorf("Begin of %d: %v, %d; want %d", replica, m, e, wanted)
	}
}

// wantPromise wants Promise to return the metadata with the ballot, and these to be stored with a version.
func wantPromise(t *testing.T, d *disk.Disk, replica int, m meta.Meta, b api.Ballot, version int) meta.Meta {
	t.Helper()
	wanted := meta.Meta{Promised: b, Incarnation: m.Incarnation}
	x, e := meta.Promise(d, replica, m, b)
	if x != wanted || e != api.OK {
		t.Errorf("Promise of %d, %v, %v: %v, %d", replica, m, b, x, e)
	}
	wantCopies(t, d, replica, version, m.Incarnation, encoded(wanted))
	return wanted
}

func wantPromiseError(t *testing.T, d *disk.Disk, replica int, m meta.Meta, b api.Ballot, wanted api.Errno) {
	t.Helper()
	if x, e := meta.Promise(d, replica, m, b); x != (meta.Meta{}) || e != wanted {
		t.Errorf("Promise of %d, %v, %v: %v, %d; want %d", replica, m, b, x, e, wanted)
	}
}

// TestStarts begins many times, with promises between, on disks of several sizes, and leaves all else as it was.
func TestStarts(t *testing.T) { // P8.2, P8.3
	for _, size := range []int{156, 157, most} {
		for replica := range 7 {
			d := made(t, size)
			for sector := 2; sector < size; sector++ {
				want(t, "write", d.Write(sector, filled(wide, byte(sector))), api.OK)
			}
			want(t, "flush", d.Flush(), api.OK)
			others := atRest(d)[2*(wide+1):]
			m, version := meta.Meta{}, 0
			for i := range 60 {
				version++
				if i%4 == 0 {
					m.Incarnation++
					wantBegin(t, d, replica, m, version)
				} else {
					b := ballot(m.Promised.Round+i%4-1, m.Promised.Replica)
					if i%4 == 1 {
						b = ballot(max(1, m.Promised.Round), (m.Promised.Replica+1)%7)
						b.Round += max(0, m.Promised.Replica-5)
					}
					m = wantPromise(t, d, replica, m, b, version)
				}
			}
			if atRest(d)[2*(wide+1):] != others || d.Waits() != 0 || !d.Up() {
				t.Errorf("another sector has changed, or %d are pending", d.Waits())
			}
			if m.Incarnation != 15 || m.Promised.Round < 30 {
				t.Errorf("%v", m)
			}
		}
	}
}

// content is something that a place of the metadata may hold: laid there, or still pending.
type content struct {
	name string
	lay  func(t *testing.T, d *disk.Disk, replica, place int)
	over func(t *testing.T, replica, place int) []byte
}

// good returns a copy.
func good(version, incarnation int, body []byte) content {
	return content{
		name: fmt.Sprintf("good %d %d %v", version, incarnation, body),
		lay: func(t *testing.T, d *disk.Disk, replica, place int) {
			put(t, d, place, sealed(t, tag.Tag{Replica: replica, Region: 1, Place: place, Index: version, Incarnation: incarnation}, body))
		},
	}
}

// copyOf returns a copy of metadata.
func copyOf(version int, m meta.Meta) content {
	return good(version, max(1, min(m.Incarnation, maxNumber)), encoded(m))
}

// waiting returns a copy that is written, but not flushed.
func waiting(version int, m meta.Meta) content {
	return content{
		name: fmt.Sprintf("waiting %d %v", version, m),
		lay:  func(*testing.T, *disk.Disk, int, int) {},
		over: func(t *testing.T, replica, place int) []byte {
			return sealed(t, tag.Tag{Replica: replica, Region: 1, Place: place, Index: version, Incarnation: 1}, encoded(m))
		},
	}
}

// after returns what remains of a copy after its sector was changed.
func after(name string, change func(t *testing.T, d *disk.Disk, sector int)) content {
	return content{
		name: name,
		lay: func(t *testing.T, d *disk.Disk, replica, place int) {
			copyOf(90, of(90, 3, 9)).lay(t, d, replica, place)
			change(t, d, place)
		},
	}
}

// foreign returns a frame that does not belong to the place.
func foreign(name string, change func(x tag.Tag) tag.Tag) content {
	return content{
		name: "of another " + name,
		lay: func(t *testing.T, d *disk.Disk, replica, place int) {
			x := change(tag.Tag{Replica: replica, Region: 1, Place: place, Index: 90, Incarnation: 4})
			put(t, d, place, sealed(t, x, encoded(of(90, 3, 9))))
		},
	}
}

func blanks() []content {
	return []content{
		{name: "never written", lay: func(*testing.T, *disk.Disk, int, int) {}},
		after("zero bytes", func(t *testing.T, d *disk.Disk, sector int) { put(t, d, sector, make([]byte, wide)) }),
	}
}

func bads() []content {
	return []content{
		after("lost", func(t *testing.T, d *disk.Disk, sector int) { want(t, "lose", d.Lose(sector), api.OK) }),
		after("flipped", func(t *testing.T, d *disk.Disk, sector int) { want(t, "flip", d.Flip(sector, 140), api.OK) }),
		after("junk", func(t *testing.T, d *disk.Disk, sector int) { put(t, d, sector, filled(wide, 3)) }),
		foreign("replica", func(x tag.Tag) tag.Tag { x.Replica = (x.Replica + 1) % 7; return x }),
		foreign("region", func(x tag.Tag) tag.Tag { x.Region = 2; return x }),
		foreign("place", func(x tag.Tag) tag.Tag { x.Place = 1 - x.Place; return x }),
	}
}

// junk holds bodies that are no encoding of valid metadata.
func junk() [][]byte {
	form := encoded(of(2, 1, 1))
	return [][]byte{
		nil, {7}, form[:12], form[1:], slices.Concat(form, []byte{0}), slices.Concat(form, form), filled(room, 1), make([]byte, room),
		make([]byte, 13), encoded(of(2, 1, 0)), encoded(of(0, 1, 1)), encoded(of(2, 7, 1)), encoded(of(maxNumber+1, 1, 1)), encoded(of(2, 1, maxNumber+1)),
	}
}

func goods() []content {
	l := []content{
		// Of version 0: nothing was stored, whatever the body is.
		good(0, 1, nil), good(0, 3, []byte{1}), copyOf(0, of(5, 1, 3)), copyOf(0, of(5, 1, maxNumber)), good(0, 1, encoded(of(5, 7, 1))),
		copyOf(1, of(0, 0, 1)), copyOf(1, of(2, 1, 1)), copyOf(5, of(2, 1, 3)), copyOf(5, of(2, 2, 3)), copyOf(6, of(2, 2, 3)), copyOf(6, of(3, 0, 4)),
		good(7, 2, encoded(of(3, 0, 4))), copyOf(8, of(maxNumber, 6, maxNumber-1)), copyOf(9, of(4, 1, maxNumber)), copyOf(10, of(0, 0, maxNumber)),
		copyOf(maxNumber-1, of(2, 1, 3)), copyOf(maxNumber-1, of(2, 1, maxNumber)),
		copyOf(maxNumber, of(2, 1, 3)), copyOf(maxNumber, of(0, 0, 1)), copyOf(maxNumber, of(2, 1, maxNumber)), good(maxNumber, 1, []byte{1}),
		waiting(0, of(2, 1, 1)), waiting(4, of(2, 1, 2)), waiting(11, of(4, 4, 5)), waiting(maxNumber, of(4, 4, 5)),
	}
	for i, body := range junk() {
		l = append(l, good(1+i, 2, body))
	}
	return l
}

// laid is a cell that is made of two contents.
type laid struct {
	replica int
	c       [2]content
}

func (l laid) String() string {
	return fmt.Sprintf("replica %d: %s; %s", l.replica, l.c[0].name, l.c[1].name)
}

// disk returns a disk that holds the cell.
func (l laid) disk(t *testing.T) *disk.Disk {
	t.Helper()
	d := made(t, all)
	for place, c := range l.c {
		c.lay(t, d, l.replica, place)
	}
	for place, c := range l.c {
		if c.over != nil {
			want(t, "write", d.Write(place, c.over(t, l.replica, place)), api.OK)
		}
	}
	return d
}

// eachCell lays each content beside each other one.
func eachCell(t *testing.T, f func(t *testing.T, l laid)) {
	t.Helper()
	contents := slices.Concat(blanks(), bads(), goods())
	for i, a := range contents {
		for k, b := range contents {
			l := laid{(i + 3*k) % 7, [2]content{a, b}}
			f(t, l)
			if t.Failed() {
				t.Fatalf("%v", l)
			}
		}
	}
}

// begun carries out what P8.2 says, by the calls of layer 7.
func begun(d *disk.Disk, replica int) (meta.Meta, api.Errno) {
	version, body, e := cell.Load(d, replica, 1)
	if e != api.OK {
		return meta.Meta{}, e
	}
	var m meta.Meta
	if version > 0 {
		if m, e = decoded(body); e != api.OK {
			return meta.Meta{}, e
		}
	}
	if m.Incarnation == maxNumber {
		return meta.Meta{}, api.ErrFull
	}
	if e := cell.Heal(d, replica, 1); e != api.OK {
		return meta.Meta{}, e
	}
	return kept(d, replica, meta.Meta{Promised: m.Promised, Incarnation: m.Incarnation + 1})
}

// promised carries out what P8.3 says, by the call of layer 7.
func promised(d *disk.Disk, replica int, m meta.Meta, b api.Ballot) (meta.Meta, api.Errno) {
	next := meta.Meta{Promised: b, Incarnation: m.Incarnation}
	if !isValid(m) || b == none || !isValid(next) || !isAbove(b, m.Promised) {
		return meta.Meta{}, api.ErrArg
	}
	return kept(d, replica, next)
}

func kept(d *disk.Disk, replica int, m meta.Meta) (meta.Meta, api.Errno) {
	if e := cell.Store(d, replica, 1, m.Incarnation, encoded(m)); e != api.OK {
		return meta.Meta{}, e
	}
	return m, api.OK
}

// keeps returns all ways of keeping or dropping so many pending writes.
func keeps(waits int) [][]bool {
	l := [][]bool{nil}
	for range waits {
		var longer [][]bool
		for _, k := range l {
			longer = append(longer, append(slices.Clone(k), false), append(slices.Clone(k), true))
		}
		l = longer
	}
	return l
}

// wantAsDefined wants a call to do on a disk what its definition does on another one like it, with each power, and then after each crash, and at the next start.
func wantAsDefined(t *testing.T, l laid, call, definition func(d *disk.Disk) (meta.Meta, api.Errno)) (told api.Errno, calls int) {
	t.Helper()
	for power := range 20 {
		waits := l.disk(t)
		want(t, "power", waits.Power(power), api.OK)
		definition(waits)
		for _, keep := range keeps(waits.Waits()) {
			d, twin := l.disk(t), l.disk(t)
			want(t, "power", d.Power(power), api.OK)
			want(t, "power", twin.Power(power), api.OK)
			m, e := call(d)
			wanted, w := definition(twin)
			told = w
			if m != wanted || e != w {
				t.Errorf("power %d: %v, %d; want %v, %d", power, m, e, wanted, w)
			}
			if d.Up() != twin.Up() || d.Waits() != twin.Waits() || nearRest(d) != nearRest(twin) {
				t.Errorf("power %d: up %v, %d are pending; want %v, %d; at rest %q", power, d.Up(), d.Waits(), twin.Up(), twin.Waits(), nearRest(d))
			}
			for _, x := range []*disk.Disk{d, twin} {
				want(t, "crash", x.Crash(keep), api.OK)
				want(t, "start", x.Start(), api.OK)
			}
			if nearRest(d) != nearRest(twin) {
				t.Errorf("power %d, kept %v: at rest %q", power, keep, nearRest(d))
			}
			m, e = meta.Begin(d, l.replica)
			wanted, w = begun(twin, l.replica)
			if m != wanted || e != w || nearRest(d) != nearRest(twin) {
				t.Errorf("power %d, kept %v, at the next start: %v, %d; want %v, %d", power, keep, m, e, wanted, w)
			}
		}
		if waits.Up() {
			return told, power
		}
	}
	t.Errorf("no end")
	return told, 0
}

// TestBegin begins over each content beside each other one, with each power.
func TestBegin(t *testing.T) { // P8.2, P8.5
	told := map[string]int{}
	eachCell(t, func(t *testing.T, l laid) {
		e, calls := wantAsDefined(t, l, func(d *disk.Disk) (meta.Meta, api.Errno) { return meta.Begin(d, l.replica) },
			func(d *disk.Disk) (meta.Meta, api.Errno) { return begun(d, l.replica) })
		told[fmt.Sprint(int(e), calls)]++
	})
	// Stored, with a copy healed before and without; no room for an incarnation, nor for a version, healed and not; and what is told without a write.
	for _, s := range []string{"0 6", "0 4", "4 0", "4 2", "70 0", "80 0"} {
		if told[s] < 2 {
			t.Errorf("%s: %d", s, told[s])
		}
	}
	if len(told) != 6 {
		t.Errorf("%v", told)
	}
}

// TestPromise promises over each content beside each other one, with each power: what is stored does not matter.
func TestPromise(t *testing.T) { // P8.3, P8.5
	told := map[string]int{}
	n := 0
	eachCell(t, func(t *testing.T, l laid) {
		n++
		m := []meta.Meta{of(0, 0, 1), of(2, 1, 1), of(2, 1, 4), of(80, 6, maxNumber)}[n%4]
		b := []api.Ballot{ballot(81, 0), ballot(80, 7), ballot(maxNumber, 6), ballot(81, 6), ballot(2, 1)}[n%5]
		e, calls := wantAsDefined(t, l, func(d *disk.Disk) (meta.Meta, api.Errno) { return meta.Promise(d, l.replica, m, b) },
			func(d *disk.Disk) (meta.Meta, api.Errno) { return promised(d, l.replica, m, b) })
		told[fmt.Sprint(int(e), calls)]++
	})
	for _, s := range []string{"0 4", "2 0", "4 0", "70 0"} {
		if told[s] < 2 {
			t.Errorf("%s: %d", s, told[s])
		}
	}
	if len(told) != 4 {
		t.Errorf("%v", told)
	}
}

// TestPromisesOfAllNumbers promises ballots at all the edges over such ones.
func TestPromisesOfAllNumbers(t *testing.T) { // P8.3
	d := made(t, all)
	version, refused := 0, 0
	for _, round := range []int{-1, 0, 1, 2, 256, maxNumber - 1, maxNumber, maxNumber + 1, math.MinInt, math.MaxInt} {
		for _, replica := range []int{-1, 0, 1, 5, 6, 7, 256, math.MinInt, math.MaxInt} {
			for _, incarnation := range []int{0, 1, 2, maxNumber, maxNumber + 1, -1, math.MinInt, math.MaxInt} {
				m := of(round, replica, incarnation)
				for _, newRound := range rounds {
					for _, newReplica := range []int{-1, 0, 1, 5, 6, 7, 256, math.MinInt, math.MaxInt} {
						b := ballot(newRound, newReplica)
						if isValid(m) && b != none && isValid(meta.Meta{Promised: b, Incarnation: 1}) && isAbove(b, m.Promised) {
							version++
							wantPromise(t, d, 2, m, b, version)
							continue
						}
						refused++
						want(t, "power", d.Power(0), api.OK)
						wantPromiseError(t, d, 2, m, b, api.ErrArg)
						want(t, "power", d.Power(100), api.OK)
					}
				}
				if t.Failed() {
					t.Fatalf("%v", m)
				}
			}
		}
	}
	if v, _, e := cell.Load(d, 2, 1); e != api.OK || v != version {
		t.Errorf("version %d, %d; want %d", v, e, version)
	}
	if version < 1000 || refused < 100000 {
		t.Errorf("%d stored, %d refused", version, refused)
	}
}

// TestBallotsOfOneRound promises each replica's ballot over each other one's.
func TestBallotsOfOneRound(t *testing.T) { // P8.3
	for _, round := range []int{1, 2, 300, maxNumber} {
		for old := range 7 {
			for replica := range 7 {
				d := made(t, all)
				m := of(round, old, 1)
				if replica > old {
					wantPromise(t, d, 1, m, ballot(round, replica), 1)
				} else {
					wantPromiseError(t, d, 1, m, ballot(round, replica), api.ErrArg)
				}
				wantPromiseError(t, d, 1, m, ballot(round-1, 6), api.ErrArg)
				if round < maxNumber {
					wantPromise(t, d, 1, m, ballot(round+1, replica), 1+max(0, min(1, replica-old)))
				}
			}
		}
	}
}

// TestNone promises the ballot that is none, and others over it.
func TestNone(t *testing.T) { // P8.2, P8.3
	d := made(t, all)
	wantBegin(t, d, 4, of(0, 0, 1), 1)
	wantBegin(t, d, 4, of(0, 0, 2), 2)
	before := viewOf(d)
	wantPromiseError(t, d, 4, of(0, 0, 2), none, api.ErrArg)
	wantPromiseError(t, d, 4, of(1, 0, 2), none, api.ErrArg)
	wantPromiseError(t, d, 4, of(0, 0, 2), ballot(0, 1), api.ErrArg)
	wantPromiseError(t, d, 4, of(0, 1, 2), ballot(1, 0), api.ErrArg)
	if viewOf(d) != before {
		t.Errorf("the disk has changed")
	}
	m := wantPromise(t, d, 4, of(0, 0, 2), ballot(1, 0), 3)
	wantPromiseError(t, d, 4, m, none, api.ErrArg)
	wantPromiseError(t, d, 4, m, ballot(1, 0), api.ErrArg)
	wantBegin(t, d, 4, of(1, 0, 3), 4)
}

// TestPromiseGoesByWhatItIsTold promises what is not above the ballot that is stored: Promise holds the new one against the metadata that it is given.
func TestPromiseGoesByWhatItIsTold(t *testing.T) { // P8.3
	d := made(t, all)
	wantPromise(t, d, 0, of(8, 3, 5), ballot(9, 1), 1)
	wantPromise(t, d, 0, of(1, 0, 4), ballot(2, 0), 2)
	wantBegin(t, d, 0, of(2, 0, 5), 3)
	put(t, d, 0, sealed(t, tag.Tag{Region: 1, Place: 0, Index: 9, Incarnation: 1}, []byte{1, 2}))
	wantBeginError(t, d, 0, api.ErrMeta)
	wantPromise(t, d, 0, of(2, 0, 5), ballot(2, 1), 10)
	wantBegin(t, d, 0, of(2, 1, 6), 11)
}

// TestGreatestIncarnation begins until there is no incarnation left: nothing is healed then.
func TestGreatestIncarnation(t *testing.T) { // P8.2, P8.3
	for place := range 2 {
		for _, other := range slices.Concat(blanks(), bads(), []content{copyOf(6, of(1, 1, 1))}) {
			l := laid{3, [2]content{copyOf(7, of(2, 1, maxNumber-1)), copyOf(7, of(2, 1, maxNumber-1))}}
			l.c[1-place] = other
			d := l.disk(t)
			wantBegin(t, d, 3, of(2, 1, maxNumber), 8)
			want(t, "lose", d.Lose(place), api.OK)
			want(t, "power", d.Power(0), api.OK)
			before := viewOf(d)
			wantBeginError(t, d, 3, api.ErrFull)
			if viewOf(d) != before {
				t.Errorf("the disk has changed")
			}
			want(t, "power", d.Power(100), api.OK)
			wantBeginError(t, d, 3, api.ErrFull)
			if viewOf(d) != before {
				t.Errorf("the disk has changed")
			}
			// It may still promise.
			wantPromise(t, d, 3, of(2, 1, maxNumber), ballot(3, 0), 9)
			wantBeginError(t, d, 3, api.ErrFull)
		}
	}
}

// TestGreatestVersion begins until there is no version left: the cell is healed, for all that.
func TestGreatestVersion(t *testing.T) { // P8.2, P8.3
	m := of(2, 1, 5)
	for place := range 2 {
		for _, other := range slices.Concat(blanks(), bads(), []content{copyOf(6, of(1, 1, 1)), copyOf(maxNumber-1, m)}) {
			l := laid{3, [2]content{copyOf(maxNumber, m), copyOf(maxNumber, m)}}
			l.c[1-place] = other
			for power := range 4 {
				d := l.disk(t)
				want(t, "power", d.Power(power), api.OK)
				if power < 2 {
					wantBeginError(t, d, 3, api.ErrDown)
					continue
				}
				wantBeginError(t, d, 3, api.ErrFull)
				wantCopies(t, d, 3, maxNumber, 5, encoded(m))
				wantBeginError(t, d, 3, api.ErrFull)
				wantPromiseError(t, d, 3, m, ballot(3, 0), api.ErrFull)
				wantCopies(t, d, 3, maxNumber, 5, encoded(m))
			}
			// Without room for an incarnation, either, nothing is healed.
			l.c[place] = copyOf(maxNumber, of(2, 1, maxNumber))
			d := l.disk(t)
			before := viewOf(d)
			want(t, "power", d.Power(0), api.OK)
			wantBeginError(t, d, 3, api.ErrFull)
			if viewOf(d) != before {
				t.Errorf("the disk has changed")
			}
		}
	}
	l := laid{0, [2]content{copyOf(maxNumber-1, m), copyOf(maxNumber-1, m)}}
	d := l.disk(t)
	wantBegin(t, d, 0, of(2, 1, 6), maxNumber)
	wantBeginError(t, d, 0, api.ErrFull)
}

// TestVersionZero begins over copies of version 0: they are healed, and count for nothing.
func TestVersionZero(t *testing.T) { // P8.2
	bodies := append(junk(), encoded(of(5, 1, 3)), encoded(of(5, 1, maxNumber)), encoded(of(0, 0, 1)))
	for _, body := range bodies {
		for place := range 2 {
			for _, other := range slices.Concat(blanks(), bads(), []content{good(0, 2, []byte{9, 9}), good(0, 2, body)}) {
				l := laid{2, [2]content{good(0, 2, body), good(0, 2, body)}}
				l.c[1-place] = other
				wantBegin(t, l.disk(t), 2, of(0, 0, 1), 1)
			}
			// What is healed by it is seen, if the power lasts no longer.
			l := laid{2, [2]content{good(0, 2, body), good(0, 2, body)}}
			l.c[1-place] = bads()[0]
			d := l.disk(t)
			want(t, "power", d.Power(2), api.OK)
			wantBeginError(t, d, 2, api.ErrDown)
			wantCopies(t, d, 2, 0, 2, body)
		}
	}
}

// TestJunk begins over bodies that are no encoding: nothing is healed then.
func TestJunk(t *testing.T) { // P8.2
	for _, body := range junk() {
		for _, version := range []int{1, 2, maxNumber - 1, maxNumber} {
			for place := range 2 {
				for _, other := range slices.Concat(blanks(), bads(), []content{copyOf(0, of(1, 1, 1)), good(version, 1, body)}) {
					l := laid{6, [2]content{good(version, 1, body), good(version, 1, body)}}
					l.c[1-place] = other
					d := l.disk(t)
					before := viewOf(d)
					want(t, "power", d.Power(0), api.OK)
					wantBeginError(t, d, 6, api.ErrMeta)
					if viewOf(d) != before {
						t.Errorf("%v: the disk has changed", l)
					}
				}
			}
		}
	}
}

// TestOtherReplicas begins for a replica on another one's disk.
func TestOtherReplicas(t *testing.T) { // P8.2, P8.3
	for owner := range 7 {
		for replica := range 7 {
			if replica == owner {
				continue
			}
			d := made(t, all)
			wantBegin(t, d, owner, of(0, 0, 1), 1)
			before := viewOf(d)
			wantBeginError(t, d, replica, api.ErrCell)
			wantPromiseError(t, d, replica, of(0, 0, 1), ballot(1, 0), api.ErrCell)
			if viewOf(d) != before {
				t.Errorf("the disk has changed")
			}
			wantBegin(t, d, owner, of(0, 0, 2), 2)
		}
	}
}

// harms holds ways to hurt a place's sector so that it can be detected.
func harms() []func(d *disk.Disk, place int) api.Errno {
	l := []func(d *disk.Disk, place int) api.Errno{
		func(d *disk.Disk, place int) api.Errno { return d.Lose(place) },
		func(d *disk.Disk, place int) api.Errno { return d.Stray(1-place, place) },
		func(d *disk.Disk, place int) api.Errno { return d.Stray(2+place, place) },
	}
	for bit := range 512 {
		l = append(l, func(d *disk.Disk, place int) api.Errno { return d.Flip(place, bit) })
	}
	return l
}

// promisedTo returns a disk on which a replica has promised something, and a manifest is stored.
func promisedTo(t *testing.T, replica int) *disk.Disk {
	t.Helper()
	d := made(t, all)
	want(t, "store", cell.Store(d, replica, 2, 1, encoded(of(9, 2, 9))), api.OK)
	wantBegin(t, d, replica, of(0, 0, 1), 1)
	wantPromise(t, d, replica, of(0, 0, 1), ballot(4, 2), 2)
	return d
}

// TestOneCopyDamaged hurts each place in each way: Begin and Promise return the same, and both copies are well behind them.
func TestOneCopyDamaged(t *testing.T) { // P8.2, P8.3, P8.5
	d := promisedTo(t, 5)
	m, version := of(4, 2, 1), 2
	for i, harm := range harms() {
		for place := range 2 {
			want(t, "harm", harm(d, place), api.OK)
			if hurt, seen, _ := ghost.Place(d, 5, 1, place); !hurt || !seen {
				t.Fatalf("harm %d is none", i)
			}
			version++
			if (i+place)%3 == 0 {
				m = wantPromise(t, d, 5, m, ballot(m.Promised.Round, m.Promised.Replica+1), version)
				version++
				m = wantPromise(t, d, 5, m, ballot(m.Promised.Round+1, 2), version)
			} else {
				m.Incarnation++
				wantBegin(t, d, 5, m, version)
			}
			if hurt := ghost.Hurt(d); len(hurt) > 0 {
				t.Errorf("hurt: %v", hurt)
			}
		}
	}
	if m.Incarnation < 600 || m.Promised.Round < 300 {
		t.Errorf("%v", m)
	}
}

// TestBothCopiesDamaged hurts both places, each in a way of its own.
func TestBothCopiesDamaged(t *testing.T) { // P8.2, P8.3
	l := harms()
	for i := range l {
		for k := range l {
			if i > 8 && i%100 != 0 || k > 8 && k%100 != 0 {
				continue
			}
			d := promisedTo(t, 0)
			want(t, "harm", l[i](d, 0), api.OK)
			want(t, "harm", l[k](d, 1), api.OK)
			if _, seen, _ := ghost.Place(d, 0, 1, 1); !seen {
				continue // what came astray to place 0 came back
			}
			before := viewOf(d)
			wantBeginError(t, d, 0, api.ErrCell)
			wantPromiseError(t, d, 0, of(4, 2, 1), ballot(5, 0), api.ErrCell)
			if viewOf(d) != before {
				t.Errorf("harms %d, %d: the disk has changed", i, k)
			}
		}
	}
}

// TestOneCopyBlank begins where one place is blank, and the other one bad: nothing was ever stored to both.
func TestOneCopyBlank(t *testing.T) { // P8.2
	for _, blank := range blanks() {
		for _, bad := range bads() {
			for place := range 2 {
				l := laid{1, [2]content{bad, bad}}
				l.c[place] = blank
				wantBegin(t, l.disk(t), 1, of(0, 0, 1), 1)
				wantPromise(t, l.disk(t), 1, of(0, 0, 1), ballot(1, 0), 1)
			}
		}
	}
}

// ways are the ways in which a call may end: after so many writes and flushes, with what is pending then kept or not. (More of them than the last one has no call.)
type way struct {
	power int
	keep  bool
}

func ways() []way {
	var l []way
	for power := range 7 {
		l = append(l, way{power, false})
		if power%2 == 1 {
			l = append(l, way{power, true})
		}
	}
	return l
}

// history is a disk, and what was told of it.
type history struct {
	t                 *testing.T
	d                 *disk.Disk
	up                bool
	m                 meta.Meta // what the replica holds while it is up
	incarnation       int       // the greatest one that was returned
	reported, perhaps api.Ballot
	interrupted       int // Begins whose storing was not reported
	stored, dropped   int // ballots that were not reported
}

// goOn begins, or promises, with a power failure or without, and wants what is told to be as P8.5 has it.
func (h *history) goOn(w way) {
	h.t.Helper()
	want(h.t, "power", h.d.Power(w.power), api.OK)
	var e api.Errno
	if h.up {
		b := ballot(h.m.Promised.Round+1, 0)
		if h.m.Promised.Round%2 == 1 {
			b = ballot(h.m.Promised.Round, h.m.Promised.Replica+1)
		}
		if b.Replica > 2 {
			b = ballot(b.Round+1, 0)
		}
		var m meta.Meta
		if m, e = meta.Promise(h.d, 3, h.m, b); e == api.OK {
			h.m, h.reported, h.perhaps = m, b, b
		} else {
			h.perhaps = b
		}
	} else {
		var m meta.Meta
		if m, e = meta.Begin(h.d, 3); e == api.OK {
			h.begin(m)
		} else {
			h.interrupted++
		}
	}
	if e != api.OK {
		want(h.t, "call", e, api.ErrDown)
		want(h.t, "crash", h.d.Crash([]bool{w.keep}), api.OK)
		want(h.t, "start", h.d.Start(), api.OK)
		h.up = false
	}
}

// begin takes in what Begin returned.
func (h *history) begin(m meta.Meta) {
	h.t.Helper()
	if m.Incarnation <= h.incarnation || m.Incarnation > h.incarnation+1+h.interrupted {
		h.t.Errorf("incarnation %d after %d, with %d interrupted", m.Incarnation, h.incarnation, h.interrupted)
	}
	if m.Promised != h.reported && m.Promised != h.perhaps || isAbove(h.reported, m.Promised) {
		h.t.Errorf("promised: %v; reported %v, perhaps stored %v", m.Promised, h.reported, h.perhaps)
	}
	if h.reported != h.perhaps {
		if m.Promised == h.reported {
			h.dropped++
		} else {
			h.stored++
		}
	}
	h.up, h.m, h.incarnation, h.interrupted = true, m, m.Incarnation, 0
	h.reported, h.perhaps = m.Promised, m.Promised
}

// TestPowerFailures has the power end at each call of four Begins and Promises in a row, each with each choice of what comes through the crash.
func TestPowerFailures(t *testing.T) { // P8.2, P8.3, P8.5
	l := ways()
	stored, dropped := 0, 0
	for n := range len(l) * len(l) * len(l) * len(l) {
		h := &history{t: t, d: made(t, all)}
		if n%2 == 1 {
			h.goOn(way{power: 100})
			h.goOn(way{power: 100})
		}
		for rest := range 4 {
			h.goOn(l[n/[]int{1, len(l), len(l) * len(l), len(l) * len(l) * len(l)}[rest]%len(l)])
		}
		h.up = false
		h.goOn(way{power: 100})
		h.up = false
		h.goOn(way{power: 100})
		stored, dropped = stored+h.stored, dropped+h.dropped
		if t.Failed() {
			t.Fatalf("choices %d", n)
		}
	}
	if stored < 100 || dropped < 100 {
		t.Errorf("%d were stored, %d dropped", stored, dropped)
	}
}

// TestEachPower tells for each power, and each choice, what Begin and Promise leave behind.
func TestEachPower(t *testing.T) { // P8.2, P8.3, P8.5
	for _, w := range ways() {
		came := w.power > 1 || w.keep // the write that comes first is at rest, so that what is stored is found
		d := promisedTo(t, 2)
		want(t, "power", d.Power(w.power), api.OK)
		m, e := meta.Begin(d, 2)
		if w.power < 4 && (m != meta.Meta{} || e != api.ErrDown) || w.power >= 4 && (m != of(4, 2, 2) || e != api.OK) {
			t.Errorf("%v: Begin: %v, %d", w, m, e)
		}
		want(t, "crash", d.Crash([]bool{w.keep}), api.OK)
		want(t, "start", d.Start(), api.OK)
		if came {
			wantBegin(t, d, 2, of(4, 2, 3), 4)
		} else {
			wantBegin(t, d, 2, of(4, 2, 2), 3)
		}
		d = promisedTo(t, 2)
		want(t, "power", d.Power(w.power), api.OK)
		m, e = meta.Promise(d, 2, of(4, 2, 1), ballot(4, 3))
		if w.power < 4 && (m != meta.Meta{} || e != api.ErrDown) || w.power >= 4 && (m != of(4, 3, 1) || e != api.OK) {
			t.Errorf("%v: Promise: %v, %d", w, m, e)
		}
		want(t, "crash", d.Crash([]bool{w.keep}), api.OK)
		want(t, "start", d.Start(), api.OK)
		if came {
			wantBegin(t, d, 2, of(4, 3, 2), 4)
		} else {
			wantBegin(t, d, 2, of(4, 2, 2), 3)
		}
	}
}

// TestWhatWasBegunOnIsNotLostWithOneCopy has the power fail after one copy of a ballot was stored: when Begin has returned it, damage to one copy does not take it back.
func TestWhatWasBegunOnIsNotLostWithOneCopy(t *testing.T) { // P8.2, P8.5
	for _, power := range []int{2, 3} {
		for _, later := range []int{0, 1, 2, 3, 4, 5, 6} {
			for place := range 2 {
				d := promisedTo(t, 1)
				want(t, "power", d.Power(power), api.OK)
				wantPromiseError(t, d, 1, of(4, 2, 1), ballot(6, 0), api.ErrDown)
				want(t, "crash", d.Crash(nil), api.OK)
				want(t, "start", d.Start(), api.OK)
				// Place 0 still holds 4 2. A Begin whose power lasts for two calls has healed it: then place 1 may be lost.
				want(t, "power", d.Power(later), api.OK)
				meta.Begin(d, 1)
				want(t, "crash", d.Crash(nil), api.OK)
				want(t, "start", d.Start(), api.OK)
				if later < 2 && place == 1 {
					continue
				}
				want(t, "lose", d.Lose(place), api.OK)
				m, e := meta.Begin(d, 1)
				if e != api.OK || m.Promised != ballot(6, 0) || m.Incarnation < 2 {
					t.Errorf("power %d, %d, place %d: %v, %d", power, later, place, m, e)
				}
			}
		}
	}
}

// TestPending begins and promises over copies that are not flushed, and flushes them.
func TestPending(t *testing.T) { // P8.2, P8.3
	for place := range 2 {
		set := func() *disk.Disk {
			d := promisedTo(t, 3)
			x := tag.Tag{Replica: 3, Region: 1, Place: place, Index: 3, Incarnation: 4}
			want(t, "write", d.Write(place, sealed(t, x, encoded(of(6, 6, 4)))), api.OK)
			return d
		}
		wantBegin(t, set(), 3, of(6, 6, 5), 4)
		wantPromise(t, set(), 3, of(6, 6, 4), ballot(7, 0), 4)
		d := set()
		want(t, "crash", d.Crash(nil), api.OK)
		want(t, "start", d.Start(), api.OK)
		wantBegin(t, d, 3, of(4, 2, 2), 3)
	}
}

// TestWrongReplicas asks for replicas that there are not.
func TestWrongReplicas(t *testing.T) { // P8.2, P8.3
	for _, size := range []int{156, most} {
		d := made(t, size)
		before := viewOf(d)
		want(t, "power", d.Power(0), api.OK)
		for _, replica := range wrongReplicas {
			wantBeginError(t, d, replica, api.ErrArg)
			wantPromiseError(t, d, replica, of(0, 0, 1), ballot(1, 0), api.ErrArg)
			wantPromiseError(t, d, replica, of(0, 0, 0), ballot(1, 0), api.ErrArg)
		}
		if viewOf(d) != before {
			t.Errorf("the disk has changed")
		}
	}
}

// TestDisksThatNewDidNotReturn asks for no disk, for one that was not made, and for copies of such as were made. What is wrong by itself is told first.
func TestDisksThatNewDidNotReturn(t *testing.T) { // P8.2, P8.3
	refused, _ := disk.New(0)
	d, off := promisedTo(t, 0), promisedTo(t, 0)
	want(t, "crash", off.Crash(nil), api.OK)
	before := viewOf(d)
	big, small, down := *d, *made(t, 1), *off
	for _, nobody := range []*disk.Disk{nil, new(disk.Disk), refused, &big, &small, &down} {
		for _, replica := range append([]int{0, 6}, wrongReplicas...) {
			wantBeginError(t, nobody, replica, api.ErrNil)
			wantPromiseError(t, nobody, replica, of(4, 2, 1), ballot(5, 0), api.ErrNil)
			wantPromiseError(t, nobody, replica, of(4, 2, maxNumber), ballot(maxNumber, 6), api.ErrNil)
			wantPromiseError(t, nobody, replica, of(4, 2, 1), ballot(4, 2), api.ErrArg)
			wantPromiseError(t, nobody, replica, of(4, 2, 1), none, api.ErrArg)
			wantPromiseError(t, nobody, replica, of(4, 2, 0), ballot(5, 0), api.ErrArg)
		}
	}
	if viewOf(d) != before {
		t.Errorf("the disk has changed")
	}
}

// TestSmallDisks asks for disks that do not have all regions, though they may have the metadata's.
func TestSmallDisks(t *testing.T) { // P8.2, P8.3
	for _, size := range []int{1, 2, 3, 4, 64, 154, 155} {
		d := made(t, size)
		copyOf(3, of(2, 1, 3)).lay(t, d, 0, 0)
		for _, off := range []func() api.Errno{
			func() api.Errno { return api.OK },
			func() api.Errno { return d.Power(0) },
			func() api.Errno { want(t, "flush", d.Flush(), api.ErrDown); return api.OK },
			func() api.Errno { return d.Crash(nil) },
		} {
			want(t, "off", off(), api.OK)
			before := viewOf(d)
			for _, replica := range append([]int{0, 6}, wrongReplicas...) {
				wantBeginError(t, d, replica, api.ErrArg)
				wantPromiseError(t, d, replica, of(2, 1, 3), ballot(3, 0), api.ErrArg)
				wantPromiseError(t, d, replica, of(2, 1, 3), ballot(1, 0), api.ErrArg)
			}
			if viewOf(d) != before {
				t.Errorf("the disk has changed")
			}
		}
	}
}

// TestOff asks for disks that are dead, and down, whatever they hold.
func TestOff(t *testing.T) { // P8.2, P8.3
	eachCell(t, func(t *testing.T, l laid) {
		d := l.disk(t)
		refuse := func() {
			t.Helper()
			rest, waits := atRest(d), d.Waits()
			wantBeginError(t, d, l.replica, api.ErrDown)
			wantPromiseError(t, d, l.replica, of(2, 1, 3), ballot(3, 0), api.ErrDown)
			wantPromiseError(t, d, l.replica, of(2, 1, 3), ballot(2, 1), api.ErrArg)
			wantBeginError(t, d, 7, api.ErrArg)
			if atRest(d) != rest || d.Waits() != waits || d.Up() {
				t.Errorf("the disk has changed")
			}
		}
		want(t, "power", d.Power(0), api.OK)
		want(t, "flush", d.Flush(), api.ErrDown)
		refuse()
		want(t, "crash", d.Crash(nil), api.OK)
		refuse()
	})
}

// state is a way in which a disk may be, for the order of the errors.
type state struct {
	name                                  string
	d                                     *disk.Disk
	nobody, small, off, bad               bool
	junk, fullIncarnation, hurt, fullCell bool
}

// made makes the state's disk, which has no power to write with.
func (s *state) made(t *testing.T, size int) {
	t.Helper()
	s.d = made(t, size)
	version, body := 4, encoded(of(2, 1, 3))
	if s.fullCell {
		version = maxNumber
	}
	if s.fullIncarnation {
		body = encoded(of(2, 1, maxNumber))
	}
	if s.junk {
		body = body[1:]
	}
	for place := range min(size, 2) {
		good(version, 1, body).lay(t, s.d, 3, place)
		if s.bad || s.hurt && place == 1 {
			want(t, "lose", s.d.Lose(place), api.OK)
		}
	}
	want(t, "power", s.d.Power(0), api.OK)
}

// states returns disks of all those ways.
func states(t *testing.T) []state {
	t.Helper()
	l := []state{{name: "nil", nobody: true}, {name: "zero", d: new(disk.Disk), nobody: true}}
	for n := range 1 << 7 {
		has := func(bit int) bool { return n>>bit&1 == 1 }
		for _, off := range []string{"up", "dead", "down"} {
			s := state{small: has(0), bad: has(1), junk: has(2), fullIncarnation: has(3), hurt: has(4), fullCell: has(5), off: off != "up"}
			size := []int{156, most}[n>>6]
			if s.small {
				size = []int{155, 1}[n>>6]
			}
			s.made(t, size)
			if off == "dead" {
				want(t, "flush", s.d.Flush(), api.ErrDown)
			}
			if off == "down" {
				want(t, "crash", s.d.Crash(nil), api.OK)
			}
			s.name = fmt.Sprintf("%d, %s, %+v", size, off, s)
			l = append(l, s)
		}
	}
	return l
}

// layer7 returns the first error of a Load, if there is one.
func (s state) layer7(wrong bool) api.Errno {
	switch {
	case s.nobody:
		return api.ErrNil
	case s.small || wrong:
		return api.ErrArg
	case s.off:
		return api.ErrDown
	case s.bad:
		return api.ErrCell
	}
	return api.OK
}

// begins returns the first of the errors that apply to a Begin without power.
func (s state) begins(wrong bool) api.Errno {
	e := s.layer7(wrong)
	switch {
	case e != api.OK:
		return e
	case s.junk:
		return api.ErrMeta
	case s.fullIncarnation:
		return api.ErrFull
	case s.hurt:
		return api.ErrDown // it would have been healed first
	case s.fullCell:
		return api.ErrFull
	}
	return api.ErrDown
}

// promises returns the first of the errors that apply to a Promise without power.
func (s state) promises(wrong bool) api.Errno {
	e := s.layer7(wrong)
	switch {
	case e != api.OK:
		return e
	case s.fullCell:
		return api.ErrFull
	}
	return api.ErrDown
}

// TestOrderOfErrors has several errors apply at once.
func TestOrderOfErrors(t *testing.T) { // P8.2, P8.3
	told := map[api.Errno]int{}
	for _, s := range states(t) {
		rest, waits := atRest(s.d), s.d.Waits()
		for _, replica := range []int{-1, 7, math.MinInt, math.MaxInt, 3} {
			for _, m := range []meta.Meta{of(2, 1, 3), of(0, 0, 1), of(2, 1, maxNumber), of(2, 7, 3), of(0, 1, 3), of(2, 1, 0), of(2, 1, maxNumber+1)} {
				for _, b := range []api.Ballot{ballot(2, 2), ballot(maxNumber, 6), none, ballot(2, 1), ballot(0, 2), ballot(3, 7), ballot(maxNumber+1, 0)} {
					_, wrong := promised(nil, replica, m, b)
					if wrong == api.ErrArg {
						wantPromiseError(t, s.d, replica, m, b, api.ErrArg)
					} else if s.promises(replica != 3) != api.ErrDown || !s.d.Up() {
						wantPromiseError(t, s.d, replica, m, b, s.promises(replica != 3))
					}
				}
			}
			// The last one may use the power up.
			e := s.begins(replica != 3)
			told[e]++
			wantBeginError(t, s.d, replica, e)
		}
		if s.promises(false) == api.ErrDown {
			wantPromiseError(t, s.d, 3, of(2, 1, 3), ballot(2, 2), api.ErrDown)
		}
		if atRest(s.d) != rest || s.d.Waits() != waits {
			t.Errorf("the disk has changed")
		}
		if t.Failed() {
			t.Fatalf("%s", s.name)
		}
	}
	for _, e := range []api.Errno{api.ErrNil, api.ErrArg, api.ErrDown, api.ErrCell, api.ErrMeta, api.ErrFull} {
		if told[e] < 2 {
			t.Errorf("%v", told)
		}
	}
}

// change performs one random call on a disk, and its definition on another one.
func change(t *testing.T, r *rand.Rand, d, twin *disk.Disk) (meta.Meta, api.Errno) {
	t.Helper()
	replica, sector, other := r.Intn(2), r.Intn(3), r.Intn(3)
	seed := r.Int63()
	// Both disks are treated the same, by the same numbers.
	both := func(f func(d *disk.Disk, r *rand.Rand)) {
		f(d, rand.New(rand.NewSource(seed)))
		f(twin, rand.New(rand.NewSource(seed)))
	}
	begins := r.Intn(2) == 0
	if r.Intn(3) == 0 {
		both(func(d *disk.Disk, r *rand.Rand) { d.Power(r.Intn(8)) })
	}
	m, b := of(r.Intn(3), r.Intn(3), r.Intn(4)), ballot(r.Intn(5), r.Intn(8))
	got, e := meta.Meta{}, api.OK
	wanted, w := meta.Meta{}, api.OK
	if begins {
		got, e = meta.Begin(d, replica)
		wanted, w = begun(twin, replica)
	} else {
		got, e = meta.Promise(d, replica, m, b)
		wanted, w = promised(twin, replica, m, b)
	}
	if got != wanted || e != w {
		t.Errorf("%v: %v, %d; want %v, %d", begins, got, e, wanted, w)
	}
	if !twin.Up() || r.Intn(9) == 0 {
		both(func(d *disk.Disk, r *rand.Rand) {
			want(t, "crash", d.Crash([]bool{r.Intn(2) == 0, r.Intn(2) == 0, r.Intn(2) == 0}), api.OK)
			want(t, "start", d.Start(), api.OK)
		})
	}
	both(func(d *disk.Disk, _ *rand.Rand) { d.Power(100) })
	switch n := r.Intn(24); n {
	case 0:
		both(func(d *disk.Disk, r *rand.Rand) { d.Flip(sector, r.Intn(512)) })
	case 1:
		both(func(d *disk.Disk, _ *rand.Rand) { d.Lose(sector) })
	case 2:
		both(func(d *disk.Disk, _ *rand.Rand) { d.Stray(other, sector) })
	case 3, 4, 5, 6:
		body := junk()[r.Intn(len(junk()))]
		if n > 3 {
			body = encoded(of(1+r.Intn(3), r.Intn(3), []int{1, 2, maxNumber - 1, maxNumber}[r.Intn(4)]))
		}
		x := tag.Tag{Replica: replica, Region: 1, Place: r.Intn(2), Index: []int{0, 1, 2, 5, maxNumber - 1, maxNumber}[r.Intn(6)], Incarnation: 1}
		both(func(d *disk.Disk, _ *rand.Rand) { want(t, "write", d.Write(sector, sealed(t, x, body)), api.OK) })
	case 7, 8, 9:
		both(func(d *disk.Disk, _ *rand.Rand) { want(t, "write", d.Write(sector, make([]byte, wide)), api.OK) })
	}
	return wanted, w
}

// TestAsDefined performs random calls, with faults and crashes between, and holds all that is told against the chapter.
func TestAsDefined(t *testing.T) { // P8.2, P8.3
	r := rand.New(rand.NewSource(2))
	told := map[api.Errno]int{}
	for range 400 {
		d, twin := made(t, all), made(t, all)
		for range 50 {
			_, e := change(t, r, d, twin)
			told[e]++
			if d.Up() != twin.Up() || d.Waits() != twin.Waits() || nearRest(d) != nearRest(twin) {
				t.Errorf("another disk")
			}
			if t.Failed() {
				return
			}
		}
	}
	for _, e := range []api.Errno{api.OK, api.ErrArg, api.ErrDown, api.ErrCell, api.ErrMeta, api.ErrFull} {
		if told[e] < 50 {
			t.Errorf("%v", told)
		}
	}
}
