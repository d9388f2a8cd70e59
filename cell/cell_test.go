package cell_test

import (
	"bytes"
	"fmt"
	"math"
	"math/rand"
	"slices"
	"testing"

	"sexton/api"
	"sexton/cell"
	"sexton/disk"
	"sexton/frame"
	"sexton/ghost"
	"sexton/tag"
)

const (
	wide      = 64  // bytes of a sector
	all       = 156 // sectors of all regions
	most      = 1024
	room      = 43 // bytes of a body
	maxNumber = 1 << 40
)

// far holds the numbers that are farthest from all that are right, and some that are right in their lowest bits.
var far = []int{math.MinInt, math.MinInt + 1, -1 << 40, -1<<32 + 1, -256, math.MaxInt - 1, math.MaxInt, 1<<40 + 1, 1 << 62, 1<<48 + 1}

var (
	wrongReplicas     = append([]int{-1, 7, 8, 256, 1 << 16, 1<<32 + 1, 1 << 40}, far...)
	wrongRegions      = append([]int{-2, -1, 0, 3, 4, 5, 6, 257, 1<<16 + 1, 1<<32 + 2, 1 << 40}, far...)
	wrongIncarnations = append([]int{-1, 0, maxNumber + 2}, far...)
)

func want(t *testing.T, call string, e, wanted api.Errno) {
	t.Helper()
	if e != wanted {
		t.Errorf("%s: %d; want %d", call, e, wanted)
	}
}

func made(t *testing.T, sectors int) *disk.Disk {
	t.Helper()
	d, e := disk.New(sectors)
	if e != api.OK {
		t.Fatalf("New(%d): %d", sectors, e)
	}
	return d
}

// where returns the sector at which the chapters have a place of a cell lie.
func where(region, place int) int { return 2*(region-1) + place }

// filled returns n bytes, none of them zero.
func filled(n int, x byte) []byte {
	b := make([]byte, n)
	for i := range b {
		b[i] = x + byte(i%7) + 1
	}
	return b
}

// sealed returns the bytes of a copy.
func sealed(t *testing.T, x tag.Tag, body []byte) []byte {
	t.Helper()
	b, e := frame.Seal(x, body, 1)
	if e != api.OK {
		t.Fatalf("Seal of %v, %v: %d", x, body, e)
	}
	return b
}

// write writes a sector, without a flush.
func write(t *testing.T, d *disk.Disk, sector int, b []byte) {
	t.Helper()
	want(t, "write", d.Write(sector, b), api.OK)
}

// put writes a sector, and flushes.
func put(t *testing.T, d *disk.Disk, sector int, b []byte) {
	t.Helper()
	write(t, d, sector, b)
	want(t, "flush", d.Flush(), api.OK)
}

func wantLoad(t *testing.T, d *disk.Disk, replica, region, version int, body ...byte) {
	t.Helper()
	if v, b, e := cell.Load(d, replica, region); v != version || !bytes.Equal(b, body) || e != api.OK {
		t.Errorf("Load of %d %d: %d, %v, %d; want %d, %v", replica, region, v, b, e, version, body)
	}
}

func wantLoadError(t *testing.T, d *disk.Disk, replica, region int, wanted api.Errno) {
	t.Helper()
	if v, b, e := cell.Load(d, replica, region); v != 0 || b != nil || e != wanted {
		t.Errorf("Load of %d %d: %d, %v, %d; want %d", replica, region, v, b, e, wanted)
	}
}

func wantHeal(t *testing.T, d *disk.Disk, replica, region int, wanted api.Errno) {
	t.Helper()
	if e := cell.Heal(d, replica, region); e != wanted {
		t.Errorf("Heal of %d %d: %d; want %d", replica, region, e, wanted)
	}
}

func wantStore(t *testing.T, d *disk.Disk, replica, region, incarnation int, body []byte, wanted api.Errno) {
	t.Helper()
	if e := cell.Store(d, replica, region, incarnation, body); e != wanted {
		t.Errorf("Store of %d %d, %d, %v: %d; want %d", replica, region, incarnation, body, e, wanted)
	}
}

// wantCopy wants a place to hold the frame of a copy at rest.
func wantCopy(t *testing.T, d *disk.Disk, x tag.Tag, body ...byte) {
	t.Helper()
	b, lost, e := d.Rest(where(x.Region, x.Place))
	if lost || e != api.OK || !bytes.Equal(b, sealed(t, x, body)) {
		state, y, other := frame.Open(b)
		t.Errorf("at rest: %d, %v, %v, lost: %v; want %v, %v", state, y, other, lost, x, body)
	}
}

// view is all that a disk shows.
type view struct {
	size, waits int
	up          bool
	sectors     string
}

func viewOf(d *disk.Disk) view {
	var b bytes.Buffer
	for s := range d.Size() {
		rest, lost, _ := d.Rest(s)
		meant, _ := d.Meant(s)
		told, e := d.Read(s)
		fmt.Fprintf(&b, "%s %v %s %s %d\n", rest, lost, meant, told, e)
	}
	return view{d.Size(), d.Waits(), d.Up(), b.String()}
}

// atRest returns what all sectors hold at rest; a lost one holds a text of another length.
func atRest(d *disk.Disk) []string {
	l := make([]string, d.Size())
	for s := range l {
		b, lost, _ := d.Rest(s)
		l[s] = string(b)
		if lost {
			l[s] = "lost"
		}
	}
	return l
}

// wantRest wants all sectors to hold at rest what is told of them.
func wantRest(t *testing.T, d *disk.Disk, wanted []string) {
	t.Helper()
	l := atRest(d)
	for s := range max(len(l), len(wanted)) {
		if s >= len(l) || s >= len(wanted) || l[s] != wanted[s] {
			t.Fatalf("sector %d of %d at rest: %v; want %v", s, len(l), []byte(l[s]), []byte(wanted[s]))
		}
	}
}

func TestExample(t *testing.T) { // P7.1, P7.3
	d := made(t, all)
	wantLoad(t, d, 0, 1, 0)
	wantStore(t, d, 0, 1, 1, []byte{7}, api.OK)
	for place := range 2 {
		wantCopy(t, d, tag.Tag{Region: 1, Place: place, Index: 1, Incarnation: 1}, 7)
	}
	want(t, "lose", d.Lose(0), api.OK)
	wantLoad(t, d, 0, 1, 1, 7)
	want(t, "lose", d.Lose(1), api.OK)
	wantLoadError(t, d, 0, 1, api.ErrCell)
	wantHeal(t, d, 0, 1, api.ErrCell)
	wantStore(t, d, 0, 1, 1, []byte{8}, api.ErrCell)
}

// content is something that a place may hold: what is laid there, what is written over it and still pending, and what that comes to.
type content struct {
	name                 string
	lay                  func(t *testing.T, d *disk.Disk, replica, region, place int)
	over                 func(t *testing.T, replica, region, place int) []byte
	state                uint8
	version, incarnation int
	body                 []byte
}

// waits returns the number of writes that are pending.
func (c content) waits() int {
	if c.over == nil {
		return 0
	}
	return 1
}

// nothing lays nothing.
func nothing(*testing.T, *disk.Disk, int, int, int) {}

// lose loses what is there.
func lose(t *testing.T, d *disk.Disk, _, region, place int) {
	t.Helper()
	want(t, "lose", d.Lose(where(region, place)), api.OK)
}

// good returns a copy.
func good(version, incarnation int, body ...byte) content {
	return content{
		name: fmt.Sprintf("good %d %d %v", version, incarnation, body),
		lay: func(t *testing.T, d *disk.Disk, replica, region, place int) {
			put(t, d, where(region, place), sealed(t, tag.Tag{Replica: replica, Region: region, Place: place, Index: version, Incarnation: incarnation}, body))
		},
		state: frame.Good, version: version, incarnation: incarnation, body: body,
	}
}

// waiting returns a copy that is written over what is lost, and not flushed.
func waiting(version, incarnation int, body ...byte) content {
	c := good(version, incarnation, body...)
	c.name = "waiting " + c.name
	c.lay = lose
	c.over = func(t *testing.T, replica, region, place int) []byte {
		return sealed(t, tag.Tag{Replica: replica, Region: region, Place: place, Index: version, Incarnation: incarnation}, body)
	}
	return c
}

// high is a copy with a version that is above most others.
func high() content { return good(9, 4, 70, 71) }

// foreign returns a frame that does not belong to the place.
func foreign(name string, change func(x tag.Tag) tag.Tag) content {
	return content{
		name: "of another " + name,
		lay: func(t *testing.T, d *disk.Disk, replica, region, place int) {
			x := change(tag.Tag{Replica: replica, Region: region, Place: place, Index: 9, Incarnation: 4})
			put(t, d, where(region, place), sealed(t, x, []byte{70}))
		},
		state: frame.Bad,
	}
}

// after returns what remains of a copy after its sector was changed.
func after(name string, state uint8, change func(t *testing.T, d *disk.Disk, sector int)) content {
	return content{
		name: name,
		lay: func(t *testing.T, d *disk.Disk, replica, region, place int) {
			high().lay(t, d, replica, region, place)
			change(t, d, where(region, place))
		},
		state: state,
	}
}

// flipped returns a copy one of whose bits is flipped.
func flipped(bit int) content {
	return after(fmt.Sprintf("flipped %d", bit), frame.Bad, func(t *testing.T, d *disk.Disk, sector int) {
		want(t, "flip", d.Flip(sector, bit), api.OK)
	})
}

// over returns what a copy is to be overwritten with.
func over(name string, state uint8, b []byte) content {
	return content{name: name, lay: high().lay, over: func(*testing.T, int, int, int) []byte { return b }, state: state}
}

// blanks, bads and goods hold contents of each of the three kinds.
func blanks() []content {
	return []content{
		{name: "never written", lay: nothing},
		after("zero bytes", frame.Blank, func(t *testing.T, d *disk.Disk, sector int) { put(t, d, sector, make([]byte, wide)) }),
		after("astray from a blank one", frame.Blank, func(t *testing.T, d *disk.Disk, sector int) {
			want(t, "stray", d.Stray(all-1, sector), api.OK)
		}),
		over("zero bytes to be written", frame.Blank, make([]byte, wide)),
	}
}

func bads() []content {
	return []content{
		{name: "lost", lay: lose, state: frame.Bad},
		after("lost copy", frame.Bad, func(t *testing.T, d *disk.Disk, sector int) {
			want(t, "lose", d.Lose(sector), api.OK)
		}),
		after("astray from a lost one", frame.Bad, func(t *testing.T, d *disk.Disk, sector int) {
			want(t, "lose", d.Lose(all-2), api.OK)
			want(t, "stray", d.Stray(all-2, sector), api.OK)
		}),
		{name: "flipped blank", state: frame.Bad, lay: func(t *testing.T, d *disk.Disk, replica, region, place int) {
			want(t, "flip", d.Flip(where(region, place), 511), api.OK)
		}},
		flipped(0), flipped(9), flipped(77), flipped(300), flipped(511),
		after("junk", frame.Bad, func(t *testing.T, d *disk.Disk, sector int) { put(t, d, sector, filled(wide, 3)) }),
		over("junk to be written", frame.Bad, filled(wide, 3)),
		foreign("replica", func(x tag.Tag) tag.Tag { x.Replica = (x.Replica + 1) % 7; return x }),
		foreign("region", func(x tag.Tag) tag.Tag { x.Region = 3 - x.Region; return x }),
		foreign("region, of the records", func(x tag.Tag) tag.Tag { x.Region = 3; return x }),
		foreign("place", func(x tag.Tag) tag.Tag { x.Place = 1 - x.Place; return x }),
		after("half a frame", frame.Bad, func(t *testing.T, d *disk.Disk, sector int) {
			b, _, _ := d.Rest(sector)
			_, x, _ := frame.Open(b)
			long, e := frame.Seal(x, filled(60, 1), 2)
			want(t, "seal", e, api.OK)
			put(t, d, sector, long[:wide])
		}),
	}
}

func goods() []content {
	return []content{
		good(0, 1), good(0, 3, 1), good(1, 1, 1), good(1, 1), good(1, 2, 2), good(1, 2, 1), good(2, 1, 1),
		good(5, 2, filled(room, 9)...), good(5, 3, filled(room, 9)...), good(5, 2, filled(room, 8)...), good(5, 2, filled(room-1, 9)...),
		good(256, 2, 0), good(257, 1, 0, 0), good(maxNumber-1, maxNumber, 1), good(maxNumber, maxNumber, 2), good(maxNumber, 1, 3),
		waiting(1, 1, 1), waiting(3, 2, 5), waiting(maxNumber, 2, 5),
	}
}

func contents() []content { return slices.Concat(blanks(), bads(), goods()) }

// laid is a cell that is made of two contents.
type laid struct {
	replica, region int
	c               [2]content
}

func (l laid) String() string {
	return fmt.Sprintf("replica %d, region %d: %s, %s", l.replica, l.region, l.c[0].name, l.c[1].name)
}

// disk returns a disk that holds the cell.
func (l laid) disk(t *testing.T) *disk.Disk {
	t.Helper()
	d := made(t, all)
	put(t, d, where(3-l.region, 0), filled(wide, 200))
	for place, c := range l.c {
		c.lay(t, d, l.replica, l.region, place)
	}
	for place, c := range l.c {
		if c.over != nil {
			write(t, d, where(l.region, place), c.over(t, l.replica, l.region, place))
		}
	}
	return d
}

// loaded returns the place whose copy is loaded by the chapter's definition, or -1, or ErrCell.
func (l laid) loaded() (int, api.Errno) {
	a, b := l.c[0], l.c[1]
	switch {
	case a.state == frame.Good && b.state == frame.Good && a.version < b.version:
		return 1, api.OK
	case a.state == frame.Good:
		return 0, api.OK
	case b.state == frame.Good:
		return 1, api.OK
	case a.state == frame.Blank || b.state == frame.Blank:
		return -1, api.OK
	}
	return -1, api.ErrCell
}

// step is a write, with a flush behind it.
type step struct {
	sector int
	bytes  string
}

// copyStep returns the step that writes a copy.
func (l laid) copyStep(t *testing.T, place, version, incarnation int, body []byte) step {
	t.Helper()
	x := tag.Tag{Replica: l.replica, Region: l.region, Place: place, Index: version, Incarnation: incarnation}
	return step{where(l.region, place), string(sealed(t, x, body))}
}

// heals returns the steps of a Heal.
func (l laid) heals(t *testing.T) ([]step, api.Errno) {
	t.Helper()
	at, e := l.loaded()
	if e != api.OK || at < 0 {
		return nil, e
	}
	c, other := l.c[at], l.c[1-at]
	if other.state == frame.Good && other.version == c.version && bytes.Equal(other.body, c.body) {
		return nil, api.OK
	}
	return []step{l.copyStep(t, 1-at, c.version, c.incarnation, c.body)}, api.OK
}

// stores returns the steps of a Store.
func (l laid) stores(t *testing.T, incarnation int, body []byte) ([]step, api.Errno) {
	t.Helper()
	at, e := l.loaded()
	if e != api.OK {
		return nil, e
	}
	if at < 0 {
		return []step{l.copyStep(t, 0, 1, incarnation, body), l.copyStep(t, 1, 1, incarnation, body)}, api.OK
	}
	version := l.c[at].version
	if version == maxNumber {
		return nil, api.ErrFull
	}
	return []step{l.copyStep(t, 1-at, version+1, incarnation, body), l.copyStep(t, at, version+1, incarnation, body)}, api.OK
}

// eachCell lays each content beside each other one, in both regions.
func eachCell(t *testing.T, f func(t *testing.T, l laid)) {
	t.Helper()
	for i, a := range contents() {
		for k, b := range contents() {
			l := laid{[]int{0, 3, 6}[(i+k)%3], 1 + (i+k/2)%2, [2]content{a, b}}
			f(t, l)
			if t.Failed() {
				t.Fatalf("%v", l)
			}
		}
	}
}

// TestLoad loads each content beside each other one.
func TestLoad(t *testing.T) { // P7.1
	eachCell(t, func(t *testing.T, l laid) {
		d := l.disk(t)
		before := viewOf(d)
		want(t, "power", d.Power(0), api.OK)
		for range 2 {
			switch at, e := l.loaded(); {
			case e != api.OK:
				wantLoadError(t, d, l.replica, l.region, e)
			case at < 0:
				wantLoadError(t, d, l.replica, l.region, api.OK)
			default:
				wantLoad(t, d, l.replica, l.region, l.c[at].version, l.c[at].body...)
			}
		}
		if viewOf(d) != before {
			t.Errorf("Load has changed the disk")
		}
	})
}

// TestContentsAreWhatTheySay holds the contents that the other tests lay against layer 4.
func TestContentsAreWhatTheySay(t *testing.T) {
	eachCell(t, func(t *testing.T, l laid) {
		d := l.disk(t)
		if d.Waits() != l.c[0].waits()+l.c[1].waits() {
			t.Errorf("%d are pending", d.Waits())
		}
		for place, c := range l.c {
			b, _ := d.Read(where(l.region, place))
			state, x, body := frame.Mine(b, l.replica, l.region, place)
			if state != c.state || x.Index != c.version || x.Incarnation != c.incarnation || !bytes.Equal(body, c.body) {
				t.Errorf("place %d: %d, %v, %v", place, state, x, body)
			}
		}
	})
}

// carriedOut returns what is at rest after steps.
func carriedOut(rest []string, steps ...step) []string {
	rest = slices.Clone(rest)
	for _, s := range steps {
		rest[s.sector] = s.bytes
	}
	return rest
}

// waitingSteps returns the pending writes of a cell's disk, the last one of each sector. (The disks here have no more.)
func waitingSteps(t *testing.T, d *disk.Disk) []step {
	t.Helper()
	var l []step
	rest := atRest(d)
	for s := range d.Size() {
		if b, e := d.Read(s); e == api.OK && string(b) != rest[s] {
			l = append(l, step{s, string(b)})
		}
	}
	if len(l) != d.Waits() {
		t.Fatalf("%d are pending, of which %d are seen", d.Waits(), len(l))
	}
	return l
}

// wantSteps wants a call to consist of these steps, in this order: with each power it ends where it should, and leaves behind what it should.
func wantSteps(t *testing.T, l laid, call func(*disk.Disk) api.Errno, steps []step, wanted api.Errno) {
	t.Helper()
	for power := range 2 * len(steps) {
		for _, kept := range []bool{false, true} {
			d := l.disk(t)
			earlier, before := waitingSteps(t, d), atRest(d)
			want(t, "power", d.Power(power), api.OK)
			want(t, "call", call(d), api.ErrDown)
			if d.Up() {
				t.Errorf("power %d: up", power)
			}
			done, waits := power/2, power%2
			rest := before
			if done > 0 {
				rest, earlier = carriedOut(carriedOut(before, earlier...), steps[:done]...), nil
			}
			wantRest(t, d, rest)
			if d.Waits() != len(earlier)+waits {
				t.Errorf("power %d: %d are pending; want %d", power, d.Waits(), len(earlier)+waits)
			}
			keep := make([]bool, len(earlier)+waits)
			if kept && waits == 1 {
				keep[len(earlier)] = true
				rest = carriedOut(rest, steps[done])
			}
			want(t, "crash", d.Crash(keep), api.OK)
			wantRest(t, d, rest)
		}
	}
	d := l.disk(t)
	earlier, before := waitingSteps(t, d), atRest(d)
	want(t, "power", d.Power(2*len(steps)), api.OK)
	want(t, "call", call(d), wanted)
	if !d.Up() {
		t.Errorf("more calls than %d steps", len(steps))
	}
	if len(steps) > 0 {
		before, earlier = carriedOut(carriedOut(before, earlier...), steps...), nil
	}
	wantRest(t, d, before)
	if d.Waits() != len(earlier) {
		t.Errorf("%d are pending; want %d", d.Waits(), len(earlier))
	}
	want(t, "flush without power", d.Flush(), api.ErrDown)
}

// TestHeal heals each content beside each other one, with each power.
func TestHeal(t *testing.T) { // P7.2
	eachCell(t, func(t *testing.T, l laid) {
		steps, e := l.heals(t)
		wantSteps(t, l, func(d *disk.Disk) api.Errno { return cell.Heal(d, l.replica, l.region) }, steps, e)
	})
}

// TestStore stores over each content beside each other one, with each power.
func TestStore(t *testing.T) { // P7.3
	bodies := [][]byte{nil, {}, {7}, filled(room, 7), make([]byte, room)}
	n := 0
	eachCell(t, func(t *testing.T, l laid) {
		n++
		incarnation, body := []int{1, 2, maxNumber - 1, maxNumber}[n%4], bodies[n%len(bodies)]
		steps, e := l.stores(t, incarnation, body)
		wantSteps(t, l, func(d *disk.Disk) api.Errno { return cell.Store(d, l.replica, l.region, incarnation, body) }, steps, e)
	})
}

// TestHealAgain heals each cell, and then once more: there is nothing left to do.
func TestHealAgain(t *testing.T) { // P7.2, P7.5
	eachCell(t, func(t *testing.T, l laid) {
		at, e := l.loaded()
		if e != api.OK || at < 0 {
			return
		}
		d := l.disk(t)
		wantHeal(t, d, l.replica, l.region, api.OK)
		c := l.c[at]
		wantLoad(t, d, l.replica, l.region, c.version, c.body...)
		before := viewOf(d)
		want(t, "power", d.Power(0), api.OK)
		wantHeal(t, d, l.replica, l.region, api.OK)
		if viewOf(d) != before {
			t.Errorf("the second Heal has changed the disk")
		}
		for place := range 2 {
			d := l.disk(t)
			wantHeal(t, d, l.replica, l.region, api.OK)
			want(t, "flush", d.Flush(), api.OK)
			want(t, "lose", d.Lose(where(l.region, place)), api.OK)
			wantLoad(t, d, l.replica, l.region, c.version, c.body...)
		}
	})
}

// TestStoreAgain stores over each cell several times.
func TestStoreAgain(t *testing.T) { // P7.3, P7.6
	eachCell(t, func(t *testing.T, l laid) {
		at, e := l.loaded()
		version := 0
		if at >= 0 {
			version = l.c[at].version
		}
		if e != api.OK || version >= maxNumber-1 {
			return
		}
		d := l.disk(t)
		for i := range 3 {
			body := filled(i*20, byte(i))
			wantStore(t, d, l.replica, l.region, 7+i, body, api.OK)
			version++
			wantLoad(t, d, l.replica, l.region, version, body...)
			for place := range 2 {
				wantCopy(t, d, tag.Tag{Replica: l.replica, Region: l.region, Place: place, Index: version, Incarnation: 7 + i}, body...)
			}
		}
	})
}

// keeps returns all ways of keeping or dropping so many pending writes.
func keeps(waits int) [][]bool {
	l := [][]bool{nil}
	for range waits {
		var longer [][]bool
		for _, k := range l {
			longer = append(longer, append(slices.Clone(k), false), append(slices.Clone(k), true))
		}
		l = longer
	}
	return l
}

// settled reports whether the contents leave nothing pending.
func (l laid) settled() bool { return l.c[0].waits()+l.c[1].waits() == 0 }

// loadedAs returns what Load tells, as one value.
func loadedAs(d *disk.Disk, l laid) string {
	v, b, e := cell.Load(d, l.replica, l.region)
	return fmt.Sprintf("%d %v %d", v, b, e)
}

// goOn wants a cell to hold what it does after a start, a Heal, a Store and one more crash.
func goOn(t *testing.T, d *disk.Disk, l laid) {
	t.Helper()
	told := loadedAs(d, l)
	v, _, e := cell.Load(d, l.replica, l.region)
	want(t, "load", e, api.OK)
	wantHeal(t, d, l.replica, l.region, api.OK)
	if again := loadedAs(d, l); again != told {
		t.Errorf("healed: %s; want %s", again, told)
	}
	if v == maxNumber {
		wantStore(t, d, l.replica, l.region, 1, []byte{99}, api.ErrFull)
		return
	}
	wantStore(t, d, l.replica, l.region, 1, []byte{99}, api.OK)
	want(t, "crash", d.Crash(nil), api.OK)
	want(t, "start", d.Start(), api.OK)
	wantLoad(t, d, l.replica, l.region, v+1, 99)
}

// TestAtomicity has the power end at each call of a Store, with each way of keeping what is pending, and goes on with or without a Heal.
func TestAtomicity(t *testing.T) { // P7.4, P7.6
	body := []byte{50, 51}
	eachCell(t, func(t *testing.T, l laid) {
		steps, e := l.stores(t, 3, body)
		if !l.settled() || e != api.OK {
			return
		}
		for power := range 2*len(steps) + 1 {
			for _, keep := range keeps(power % 2) {
				for _, healed := range []bool{false, true} {
					d := l.disk(t)
					old := loadedAs(d, l)
					v, _, _ := cell.Load(d, l.replica, l.region)
					stored := fmt.Sprintf("%d %v %d", v+1, body, api.OK)
					want(t, "power", d.Power(power), api.OK)
					e := cell.Store(d, l.replica, l.region, 3, body)
					want(t, "crash", d.Crash(keep), api.OK)
					want(t, "start", d.Start(), api.OK)
					wanted := old
					if power > 1 || power == 1 && keep[0] {
						wanted = stored
					}
					if told := loadedAs(d, l); told != wanted || e == api.OK && told != stored || (e == api.OK) != (power == 4) {
						t.Errorf("power %d, kept %v: %d, %s; want %s", power, keep, e, told, wanted)
					}
					if healed {
						wantHeal(t, d, l.replica, l.region, api.OK)
						if told := loadedAs(d, l); told != wanted {
							t.Errorf("power %d, kept %v, healed: %s; want %s", power, keep, told, wanted)
						}
					}
					v, _, _ = cell.Load(d, l.replica, l.region)
					if v < maxNumber {
						wantStore(t, d, l.replica, l.region, 4, []byte{52}, api.OK)
						wantLoad(t, d, l.replica, l.region, v+1, 52)
					}
					goOn(t, d, l)
				}
			}
		}
	})
}

// TestHealInterrupted has the power end at each call of a Heal, with each way of keeping what is pending: what is loaded stays.
func TestHealInterrupted(t *testing.T) { // P7.2, P7.5
	eachCell(t, func(t *testing.T, l laid) {
		steps, e := l.heals(t)
		if !l.settled() || e != api.OK {
			return
		}
		for power := range 2*len(steps) + 1 {
			for _, keep := range keeps(power % 2) {
				d := l.disk(t)
				old := loadedAs(d, l)
				want(t, "power", d.Power(power), api.OK)
				e := cell.Heal(d, l.replica, l.region)
				if (e == api.OK) != (power == 2*len(steps)) || e != api.OK && e != api.ErrDown {
					t.Errorf("power %d: %d", power, e)
				}
				want(t, "crash", d.Crash(keep), api.OK)
				want(t, "start", d.Start(), api.OK)
				if told := loadedAs(d, l); told != old {
					t.Errorf("power %d, kept %v: %s; want %s", power, keep, told, old)
				}
				goOn(t, d, l)
			}
		}
	})
}

// TestStoresInterrupted has one Store after another end at each call, without and with a Heal between.
func TestStoresInterrupted(t *testing.T) { // P7.4, P7.6
	for way := range 5 * 5 * 8 * 2 {
		powers := [2]int{way % 5, way / 5 % 5}
		kept, healed := way/25%8, way/200 == 1
		d := made(t, all)
		wantStore(t, d, 2, 2, 1, []byte{0}, api.OK)
		version, body := 1, byte(0)
		for i, power := range powers {
			want(t, "power", d.Power(power), api.OK)
			e := cell.Store(d, 2, 2, 2+i, []byte{byte(1 + i)})
			keep := kept>>i&1 == 1
			want(t, "crash", d.Crash([]bool{keep}), api.OK)
			want(t, "start", d.Start(), api.OK)
			if power > 1 || power == 1 && keep {
				version, body = version+1, byte(1+i)
			}
			if (e == api.OK) != (power == 4) {
				t.Errorf("%d: %d", power, e)
			}
			wantLoad(t, d, 2, 2, version, body)
			if healed && kept>>2 == i {
				wantHeal(t, d, 2, 2, api.OK)
				wantLoad(t, d, 2, 2, version, body)
				wantCopy(t, d, tag.Tag{Replica: 2, Region: 2, Place: 0, Index: version, Incarnation: 1 + int(body)}, body)
				wantCopy(t, d, tag.Tag{Replica: 2, Region: 2, Place: 1, Index: version, Incarnation: 1 + int(body)}, body)
			}
		}
		wantStore(t, d, 2, 2, 9, []byte{9}, api.OK)
		wantLoad(t, d, 2, 2, version+1, 9)
		if t.Failed() {
			t.Fatalf("powers %v, kept %d, healed %v", powers, kept, healed)
		}
	}
}

// TestCopiesThatArePending loads, heals and stores over copies that are not flushed, which a crash then keeps or drops.
func TestCopiesThatArePending(t *testing.T) { // P7.1, P7.2, P7.3
	older, newer := good(4, 1, 40), good(5, 2, 50)
	for place := range 2 {
		for _, kept := range []bool{false, true} {
			set := func() *disk.Disk {
				d := made(t, all)
				older.lay(t, d, 1, 2, 0)
				older.lay(t, d, 1, 2, 1)
				write(t, d, where(2, place), sealed(t, tag.Tag{Replica: 1, Region: 2, Place: place, Index: 5, Incarnation: 2}, newer.body))
				wantLoad(t, d, 1, 2, 5, 50)
				return d
			}
			d := set()
			want(t, "crash", d.Crash([]bool{kept}), api.OK)
			want(t, "start", d.Start(), api.OK)
			if kept {
				wantLoad(t, d, 1, 2, 5, 50)
			} else {
				wantLoad(t, d, 1, 2, 4, 40)
			}
			// Heal writes the other place, and by its flush both are carried out.
			d = set()
			wantHeal(t, d, 1, 2, api.OK)
			want(t, "crash", d.Crash(nil), api.OK)
			for p := range 2 {
				wantCopy(t, d, tag.Tag{Replica: 1, Region: 2, Place: p, Index: 5, Incarnation: 2}, 50)
			}
			// Both are pending, and the same: there is nothing to do, nor is anything flushed.
			d = set()
			write(t, d, where(2, 1-place), sealed(t, tag.Tag{Replica: 1, Region: 2, Place: 1 - place, Index: 5, Incarnation: 3}, newer.body))
			wantHeal(t, d, 1, 2, api.OK)
			if d.Waits() != 2 {
				t.Errorf("%d are pending", d.Waits())
			}
			// A Store whose first flush finds no power leaves both pending.
			d = set()
			want(t, "power", d.Power(1), api.OK)
			wantStore(t, d, 1, 2, 3, []byte{60}, api.ErrDown)
			if d.Waits() != 2 {
				t.Errorf("%d are pending", d.Waits())
			}
			want(t, "crash", d.Crash([]bool{false, kept}), api.OK)
			want(t, "start", d.Start(), api.OK)
			if kept {
				wantLoad(t, d, 1, 2, 6, 60)
			} else {
				wantLoad(t, d, 1, 2, 4, 40)
			}
		}
	}
}

// TestAstrayFromTheOtherPlace has the write of one place come to the other one.
func TestAstrayFromTheOtherPlace(t *testing.T) { // P7.1, P7.2, P7.3
	for region := 1; region <= 2; region++ {
		for from := range 2 {
			to := 1 - from
			d := made(t, all)
			wantStore(t, d, 6, region, 1, []byte{1}, api.OK)
			want(t, "stray", d.Stray(where(region, from), where(region, to)), api.OK)
			wantLoad(t, d, 6, region, 1, 1)
			wantHeal(t, d, 6, region, api.OK)
			for place := range 2 {
				wantCopy(t, d, tag.Tag{Replica: 6, Region: region, Place: place, Index: 1, Incarnation: 1}, 1)
			}
			want(t, "stray", d.Stray(where(region, from), where(region, to)), api.OK)
			wantStore(t, d, 6, region, 2, []byte{2}, api.OK)
			for place := range 2 {
				wantCopy(t, d, tag.Tag{Replica: 6, Region: region, Place: place, Index: 2, Incarnation: 2}, 2)
			}
			// The one that remained is lost then, too.
			want(t, "stray", d.Stray(where(region, from), where(region, to)), api.OK)
			want(t, "lose", d.Lose(where(region, from)), api.OK)
			wantLoadError(t, d, 6, region, api.ErrCell)
			// A blank one comes there, and all is blank.
			d = made(t, all)
			good(3, 1, 1).lay(t, d, 6, region, to)
			want(t, "stray", d.Stray(where(region, from), where(region, to)), api.OK)
			wantLoad(t, d, 6, region, 0)
			// What was written to the wrong place comes home by it.
			put(t, d, where(region, from), sealed(t, tag.Tag{Replica: 6, Region: region, Place: to, Index: 8, Incarnation: 1}, []byte{8}))
			wantLoad(t, d, 6, region, 0)
			want(t, "stray", d.Stray(where(region, from), where(region, to)), api.OK)
			wantLoad(t, d, 6, region, 8, 8)
			// The other region's copy, or the other replica's, comes there.
			wantStore(t, d, 6, 3-region, 1, []byte{9}, api.OK)
			want(t, "stray", d.Stray(where(3-region, to), where(region, to)), api.OK)
			wantLoadError(t, d, 6, region, api.ErrCell)
			wantLoad(t, d, 6, 3-region, 1, 9)
			wantLoadError(t, d, 5, 3-region, api.ErrCell)
		}
	}
}

// harms holds ways to hurt a sector that holds a copy, so that it can be detected.
func harms() []func(d *disk.Disk, region, place int) api.Errno {
	l := []func(d *disk.Disk, region, place int) api.Errno{
		func(d *disk.Disk, region, place int) api.Errno { return d.Lose(where(region, place)) },
		func(d *disk.Disk, region, place int) api.Errno {
			return d.Stray(where(region, 1-place), where(region, place))
		},
		func(d *disk.Disk, region, place int) api.Errno {
			return d.Stray(where(3-region, place), where(region, place))
		},
		func(d *disk.Disk, region, place int) api.Errno {
			if e := d.Lose(100); e != api.OK {
				return e
			}
			return d.Stray(100, where(region, place))
		},
	}
	for bit := range 512 {
		l = append(l, func(d *disk.Disk, region, place int) api.Errno { return d.Flip(where(region, place), bit) })
	}
	return l
}

// stored returns a disk on which both cells were stored to.
func stored(t *testing.T, replica int) *disk.Disk {
	t.Helper()
	d := made(t, all)
	for region := 1; region <= 2; region++ {
		for i := range 3 {
			wantStore(t, d, replica, region, 5, []byte{byte(10*region + i), 0, 1}, api.OK)
		}
	}
	return d
}

// TestOneCopySuffices hurts each place in each way, after a Store and after a Heal, and heals it.
func TestOneCopySuffices(t *testing.T) { // P7.5
	for region := 1; region <= 2; region++ {
		d := stored(t, 4)
		body := []byte{byte(10*region + 2), 0, 1}
		for i, harm := range harms() {
			for place := range 2 {
				want(t, "harm", harm(d, region, place), api.OK)
				if hurt, seen, _ := ghost.Place(d, 4, region, place); !hurt || !seen {
					t.Fatalf("harm %d is none", i)
				}
				wantLoad(t, d, 4, region, 3, body...)
				wantHeal(t, d, 4, region, api.OK)
				if l := ghost.Hurt(d); len(l) > 0 && !slices.Equal(l, []int{100}) {
					t.Errorf("hurt: %v", l)
				}
				wantLoad(t, d, 4, region, 3, body...)
				for p := range 2 {
					wantCopy(t, d, tag.Tag{Replica: 4, Region: region, Place: p, Index: 3, Incarnation: 5}, body...)
				}
			}
		}
	}
}

// TestBothHurt hurts both places, each in a way of its own.
func TestBothHurt(t *testing.T) { // P7.5
	l := harms()
	for region := 1; region <= 2; region++ {
		for i := range l {
			if i > 16 && i%50 != 0 {
				continue
			}
			for k := range l {
				if k > 16 && k%50 != 0 {
					continue
				}
				d := stored(t, 0)
				want(t, "harm", l[i](d, region, 0), api.OK)
				want(t, "harm", l[k](d, region, 1), api.OK)
				if _, seen, _ := ghost.Place(d, 0, region, 1); !seen {
					continue // what came astray to place 0 came back
				}
				before := viewOf(d)
				want(t, "power", d.Power(0), api.OK)
				wantLoadError(t, d, 0, region, api.ErrCell)
				wantHeal(t, d, 0, region, api.ErrCell)
				wantStore(t, d, 0, region, 1, []byte{1}, api.ErrCell)
				wantLoad(t, d, 0, 3-region, 3, byte(10*(3-region)+2), 0, 1)
				if viewOf(d) != before {
					t.Errorf("harms %d, %d: the disk has changed", i, k)
				}
			}
		}
	}
}

// TestVersions stores many times, in both regions by turns.
func TestVersions(t *testing.T) { // P7.3, P7.6
	for _, size := range []int{156, 157, most} {
		for _, replica := range []int{0, 1, 5, 6} {
			d := made(t, size)
			counts := [3]int{}
			for i := range 300 {
				region := 1 + i*i%3%2
				body := filled(i%(room+1), byte(i))
				wantStore(t, d, replica, region, 1+i, body, api.OK)
				counts[region]++
				wantLoad(t, d, replica, region, counts[region], body...)
				if counts[3-region] == 0 {
					wantLoad(t, d, replica, 3-region, 0)
				}
				if i%7 == 0 {
					want(t, "lose", d.Lose(where(region, i%2)), api.OK)
				}
				if i%5 == 0 {
					wantHeal(t, d, replica, region, api.OK)
					wantLoad(t, d, replica, region, counts[region], body...)
				}
				if i%11 == 0 {
					want(t, "crash", d.Crash(nil), api.OK)
					want(t, "start", d.Start(), api.OK)
				}
			}
			if counts[1] < 50 || counts[2] < 50 {
				t.Errorf("%v", counts)
			}
		}
	}
}

// TestGreatestVersions stores until the versions end, from each place on.
func TestGreatestVersions(t *testing.T) { // P7.1, P7.2, P7.3
	for place := range 2 {
		for _, other := range []content{blanks()[0], bads()[0], good(0, 1), good(maxNumber-2, 1, 9)} {
			d := made(t, all)
			good(maxNumber-1, 1, 7).lay(t, d, 0, 1, place)
			other.lay(t, d, 0, 1, 1-place)
			wantLoad(t, d, 0, 1, maxNumber-1, 7)
			wantStore(t, d, 0, 1, maxNumber, []byte{8}, api.OK)
			wantLoad(t, d, 0, 1, maxNumber, 8)
			for p := range 2 {
				wantCopy(t, d, tag.Tag{Region: 1, Place: p, Index: maxNumber, Incarnation: maxNumber}, 8)
			}
			want(t, "power", d.Power(0), api.OK)
			for range 2 {
				wantStore(t, d, 0, 1, 1, []byte{8}, api.ErrFull)
				wantHeal(t, d, 0, 1, api.OK)
			}
			want(t, "power", d.Power(100), api.OK)
			want(t, "lose", d.Lose(place), api.OK)
			wantStore(t, d, 0, 1, 1, []byte{8}, api.ErrFull)
			wantHeal(t, d, 0, 1, api.OK)
			wantCopy(t, d, tag.Tag{Region: 1, Place: place, Index: maxNumber, Incarnation: maxNumber}, 8)
			wantStore(t, d, 0, 1, 1, nil, api.ErrFull)
			wantLoad(t, d, 0, 1, maxNumber, 8)
			// The other cell has versions of its own.
			wantStore(t, d, 0, 2, 1, []byte{5}, api.OK)
			wantLoad(t, d, 0, 2, 1, 5)
		}
	}
}

// TestVersionZero stores over copies of version 0, and heals with them.
func TestVersionZero(t *testing.T) { // P7.1, P7.2, P7.3
	for place := range 2 {
		d := made(t, all)
		good(0, 9, 1, 2).lay(t, d, 3, 2, place)
		wantLoad(t, d, 3, 2, 0, 1, 2)
		wantHeal(t, d, 3, 2, api.OK)
		for p := range 2 {
			wantCopy(t, d, tag.Tag{Replica: 3, Region: 2, Place: p, Index: 0, Incarnation: 9}, 1, 2)
		}
		wantStore(t, d, 3, 2, 1, nil, api.OK)
		wantLoad(t, d, 3, 2, 1)
	}
	d := made(t, all)
	good(0, 1, 1).lay(t, d, 3, 2, 0)
	good(0, 1, 2).lay(t, d, 3, 2, 1)
	wantLoad(t, d, 3, 2, 0, 1)
	wantHeal(t, d, 3, 2, api.OK)
	wantCopy(t, d, tag.Tag{Replica: 3, Region: 2, Place: 1, Incarnation: 1}, 1)
}

// TestBodies stores bodies of each length.
func TestBodies(t *testing.T) { // P7.1, P7.3
	for _, region := range []int{1, 2} {
		d := made(t, all)
		for n := range room + 1 {
			wantStore(t, d, 0, region, 1, filled(n, byte(n)), api.OK)
			wantLoad(t, d, 0, region, 2*n+1, filled(n, byte(n))...)
			wantStore(t, d, 0, region, 1, make([]byte, n), api.OK)
			wantLoad(t, d, 0, region, 2*n+2, make([]byte, n)...)
		}
		before := viewOf(d)
		for _, n := range []int{44, 45, 63, 64, 65, 88, 89, 128, 256, 65536, 65536 + 43, 1 << 20} {
			wantStore(t, d, 0, region, 1, make([]byte, n), api.ErrLong)
		}
		if viewOf(d) != before {
			t.Errorf("the disk has changed")
		}
	}
}

// TestWrongNumbers asks for replicas and regions that do not exist, and stores with incarnations that are none, on disks that are new, and that hold copies.
func TestWrongNumbers(t *testing.T) { // P7.1, P7.2, P7.3
	for _, size := range []int{156, 157, most} {
		blank, full := made(t, size), made(t, size)
		for region := 1; region <= 2; region++ {
			wantStore(t, full, 0, region, 1, []byte{1}, api.OK)
		}
		for _, d := range []*disk.Disk{blank, full} {
			before := viewOf(d)
			want(t, "power", d.Power(0), api.OK)
			refused := func(replica, region, incarnation int) {
				t.Helper()
				for _, n := range []int{0, 1, room, room + 1} {
					wantStore(t, d, replica, region, incarnation, make([]byte, n), api.ErrArg)
				}
			}
			for _, replica := range append([]int{0, 6}, wrongReplicas...) {
				for _, region := range append([]int{1, 2}, wrongRegions...) {
					if (replica == 0 || replica == 6) && (region == 1 || region == 2) {
						continue
					}
					wantLoadError(t, d, replica, region, api.ErrArg)
					wantHeal(t, d, replica, region, api.ErrArg)
					for _, incarnation := range []int{0, 1, maxNumber, maxNumber + 1} {
						refused(replica, region, incarnation)
					}
				}
			}
			for _, incarnation := range wrongIncarnations {
				refused(0, 1, incarnation)
				refused(0, 2, incarnation)
			}
			if viewOf(d) != before {
				t.Errorf("the disk has changed")
			}
		}
	}
}

// TestRightNumbers stores with each replica, in each region, with the least and the greatest incarnation.
func TestRightNumbers(t *testing.T) { // P7.3
	for replica := range 7 {
		for region := 1; region <= 2; region++ {
			for _, incarnation := range []int{1, 2, 255, 256, maxNumber - 1, maxNumber} {
				for _, size := range []int{156, most} {
					d := made(t, size)
					rest := atRest(d)
					wantStore(t, d, replica, region, incarnation, []byte{1}, api.OK)
					for place := range 2 {
						x := tag.Tag{Replica: replica, Region: region, Place: place, Index: 1, Incarnation: incarnation}
						rest[where(region, place)] = string(sealed(t, x, []byte{1}))
					}
					wantRest(t, d, rest)
				}
			}
		}
	}
}

// TestSmallDisks asks for disks that do not have all regions, though they may have the cells.
func TestSmallDisks(t *testing.T) { // P7.1, P7.2, P7.3
	for _, size := range []int{1, 2, 3, 4, 64, 154, 155} {
		d := made(t, size)
		put(t, d, 0, sealed(t, tag.Tag{Region: 1, Index: 3, Incarnation: 1}, []byte{3}))
		for _, off := range []func() api.Errno{
			func() api.Errno { return api.OK },
			func() api.Errno { return d.Power(0) },
			func() api.Errno { want(t, "flush", d.Flush(), api.ErrDown); return api.OK },
			func() api.Errno { return d.Crash(nil) },
		} {
			want(t, "off", off(), api.OK)
			before := viewOf(d)
			for _, replica := range []int{-1, 0, 6, 7} {
				for _, region := range []int{-1, 0, 1, 2, 3} {
					wantLoadError(t, d, replica, region, api.ErrArg)
					wantHeal(t, d, replica, region, api.ErrArg)
					for _, n := range []int{0, 43, 44} {
						wantStore(t, d, replica, region, 1, make([]byte, n), api.ErrArg)
						wantStore(t, d, replica, region, 0, make([]byte, n), api.ErrArg)
					}
				}
			}
			if viewOf(d) != before {
				t.Errorf("the disk has changed")
			}
		}
	}
}

// TestDisksThatNewDidNotReturn asks for no disk, for one that was not made, and for copies of such as were made.
func TestDisksThatNewDidNotReturn(t *testing.T) { // P7.1, P7.2, P7.3
	refused, _ := disk.New(0)
	d, off := stored(t, 0), stored(t, 0)
	want(t, "crash", off.Crash(nil), api.OK)
	before := viewOf(d)
	big, small, down := *d, *made(t, 1), *off
	for _, nobody := range []*disk.Disk{nil, new(disk.Disk), refused, &big, &small, &down} {
		for _, replica := range append([]int{0, 6}, wrongReplicas...) {
			for _, region := range append([]int{1, 2}, wrongRegions...) {
				wantLoadError(t, nobody, replica, region, api.ErrNil)
				wantHeal(t, nobody, replica, region, api.ErrNil)
				for _, incarnation := range append([]int{1, maxNumber}, wrongIncarnations...) {
					wantStore(t, nobody, replica, region, incarnation, []byte{1}, api.ErrNil)
					wantStore(t, nobody, replica, region, incarnation, make([]byte, 44), api.ErrNil)
				}
			}
		}
	}
	if viewOf(d) != before {
		t.Errorf("the disk has changed")
	}
}

// TestOff asks for disks that are dead, and down.
func TestOff(t *testing.T) { // P7.1, P7.2, P7.3
	eachCell(t, func(t *testing.T, l laid) {
		d := l.disk(t)
		refuse := func() {
			t.Helper()
			before := viewOf(d)
			wantLoadError(t, d, l.replica, l.region, api.ErrDown)
			wantHeal(t, d, l.replica, l.region, api.ErrDown)
			wantStore(t, d, l.replica, l.region, 1, make([]byte, room), api.ErrDown)
			wantStore(t, d, l.replica, l.region, 1, make([]byte, room+1), api.ErrLong)
			wantStore(t, d, l.replica, l.region, 0, make([]byte, room+1), api.ErrArg)
			wantHeal(t, d, l.replica, 3, api.ErrArg)
			wantLoadError(t, d, 7, l.region, api.ErrArg)
			if viewOf(d) != before {
				t.Errorf("the disk has changed")
			}
		}
		told := loadedAs(d, l)
		want(t, "power", d.Power(0), api.OK)
		want(t, "flush", d.Flush(), api.ErrDown)
		refuse()
		keep := make([]bool, d.Waits())
		for i := range keep {
			keep[i] = true
		}
		want(t, "crash", d.Crash(keep), api.OK)
		refuse()
		want(t, "start", d.Start(), api.OK)
		if again := loadedAs(d, l); again != told {
			t.Errorf("%s; want %s", again, told)
		}
	})
}

// state is a way in which a disk may be, for the order of the errors.
type state struct {
	name      string
	d         *disk.Disk
	nobody    bool
	small     bool
	off       bool
	bad, full bool
}

// states returns disks in all those ways, which have no power to write with.
func states(t *testing.T) []state {
	t.Helper()
	l := []state{{name: "nil", nobody: true}, {name: "zero", d: new(disk.Disk), nobody: true}}
	for _, size := range []int{1, 155, 156, most} {
		for _, hold := range []string{"well", "bad", "full"} {
			for _, off := range []string{"up", "dead", "down"} {
				d := made(t, size)
				for sector := range min(size, 4) {
					version := 4
					if hold == "full" {
						version = maxNumber
					}
					put(t, d, sector, sealed(t, tag.Tag{Replica: 3, Region: 1 + sector/2, Place: sector % 2, Index: version, Incarnation: 1}, []byte{1}))
					if hold == "bad" {
						want(t, "lose", d.Lose(sector), api.OK)
					}
				}
				want(t, "power", d.Power(0), api.OK)
				if off == "dead" {
					want(t, "flush", d.Flush(), api.ErrDown)
				}
				if off == "down" {
					want(t, "crash", d.Crash(nil), api.OK)
				}
				l = append(l, state{fmt.Sprintf("%d, %s, %s", size, hold, off), d, false, size < all, off != "up", hold == "bad", hold == "full"})
			}
		}
	}
	return l
}

// first returns the first of the errors, in the chapter's order, that applies.
func (s state) first(wrong, long, stores bool) api.Errno {
	switch {
	case s.nobody:
		return api.ErrNil
	case s.small || wrong:
		return api.ErrArg
	case long:
		return api.ErrLong
	case s.off:
		return api.ErrDown
	case s.bad:
		return api.ErrCell
	case s.full && stores:
		return api.ErrFull
	}
	return api.OK
}

// TestOrderOfErrors has several errors apply at once.
func TestOrderOfErrors(t *testing.T) { // P7.1, P7.2, P7.3
	for _, s := range states(t) {
		before := viewOf(s.d)
		for _, replica := range []int{3, -1, 7, math.MinInt, math.MaxInt} {
			for _, region := range []int{1, 2, -1, 0, 3, math.MinInt, math.MaxInt} {
				wrong := replica != 3 || region != 1 && region != 2
				if e := s.first(wrong, false, false); e != api.OK {
					wantLoadError(t, s.d, replica, region, e)
					wantHeal(t, s.d, replica, region, e)
				}
				for _, incarnation := range []int{1, maxNumber, 0, -1, maxNumber + 1, math.MinInt, math.MaxInt} {
					for _, n := range []int{0, 1, 43, 44, 64, 200} {
						e := s.first(wrong || incarnation < 1 || incarnation > maxNumber, n > 43, true)
						if e != api.OK {
							wantStore(t, s.d, replica, region, incarnation, make([]byte, n), e)
						}
					}
				}
			}
		}
		if viewOf(s.d) != before {
			t.Errorf("the disk has changed")
		}
		if t.Failed() {
			t.Fatalf("%s", s.name)
		}
	}
}

// TestWhatIsToldIsTheCallersOwn changes what Load tells.
func TestWhatIsToldIsTheCallersOwn(t *testing.T) { // P7.1
	for _, n := range []int{1, 20, room} {
		for _, pending := range []bool{false, true} {
			d := stored(t, 0)
			body := filled(n, 5)
			if pending {
				for place := range 2 {
					write(t, d, place, sealed(t, tag.Tag{Region: 1, Place: place, Index: 8, Incarnation: 1}, body))
				}
			} else {
				wantStore(t, d, 0, 1, 1, body, api.OK)
			}
			before := viewOf(d)
			version, b, _ := cell.Load(d, 0, 1)
			_, c, _ := cell.Load(d, 0, 1)
			for i := range b[:cap(b)] {
				b[:cap(b)][i]++
			}
			b = append(b, 1, 2, 3)
			if !bytes.Equal(c, body) {
				t.Errorf("told before: %v", c)
			}
			wantLoad(t, d, 0, 1, version, body...)
			if viewOf(d) != before {
				t.Errorf("the disk has changed with %v", b)
			}
		}
	}
}

// TestWhatIsHandedInIsCopied changes a body after it was stored.
func TestWhatIsHandedInIsCopied(t *testing.T) { // P7.3
	for _, n := range []int{0, 1, 20, room} {
		for power := range 5 {
			backing := filled(100, 9)
			body := backing[10 : 10+n]
			d := made(t, all)
			want(t, "power", d.Power(power), api.OK)
			e := cell.Store(d, 0, 1, 1, body)
			if !bytes.Equal(backing, filled(100, 9)) {
				t.Errorf("Store has changed the body, or what lies beside it: %v", backing)
			}
			for i := range backing {
				backing[i] = 0
			}
			want(t, "crash", d.Crash([]bool{true}), api.OK)
			want(t, "start", d.Start(), api.OK)
			if power > 0 {
				wantLoad(t, d, 0, 1, 1, filled(100, 9)[10:10+n]...)
			}
			if (e == api.OK) != (power == 4) {
				t.Errorf("%d", e)
			}
		}
	}
}

// TestNilAndEmptyBodies stores no body in both ways.
func TestNilAndEmptyBodies(t *testing.T) { // P7.2, P7.3
	a, b := made(t, all), made(t, all)
	wantStore(t, a, 0, 1, 1, nil, api.OK)
	wantStore(t, b, 0, 1, 1, []byte{}, api.OK)
	if viewOf(a) != viewOf(b) {
		t.Errorf("other disks")
	}
	wantLoad(t, a, 0, 1, 1)
	want(t, "power", a.Power(0), api.OK)
	wantHeal(t, a, 0, 1, api.OK)
}

// shadow is a disk as layer 5 has it, and a cell as this chapter has it, told anew.
type shadow struct {
	rest    []string
	lost    []bool
	pending []step
	power   int // -1: unlimited
	up      bool
}

func newShadow(sectors int) *shadow {
	return &shadow{rest: slices.Repeat([]string{string(make([]byte, wide))}, sectors), lost: make([]bool, sectors), power: -1, up: true}
}

func (m *shadow) draws() bool {
	if !m.up || m.power == 0 {
		m.up = false
		return false
	}
	if m.power > 0 {
		m.power--
	}
	return true
}

func (m *shadow) carryOut(s step) { m.rest[s.sector], m.lost[s.sector] = s.bytes, false }

func (m *shadow) write(s step) bool {
	if !m.draws() {
		return false
	}
	m.pending = append(m.pending, s)
	return true
}

func (m *shadow) flush() bool {
	if !m.draws() {
		return false
	}
	for _, s := range m.pending {
		m.carryOut(s)
	}
	m.pending = nil
	return true
}

func (m *shadow) crash(keep []bool) {
	for i, s := range m.pending {
		if i < len(keep) && keep[i] {
			m.carryOut(s)
		}
	}
	m.pending, m.power, m.up = nil, -1, true
}

// copies returns the cell that the shadow holds.
func (m *shadow) copies(replica, region int) laid {
	l := laid{replica: replica, region: region}
	for place := range 2 {
		sector := where(region, place)
		told, lost := m.rest[sector], m.lost[sector]
		for _, s := range m.pending {
			if s.sector == sector {
				told, lost = s.bytes, false
			}
		}
		c := &l.c[place]
		if lost {
			c.state = frame.Bad
			continue
		}
		var x tag.Tag
		c.state, x, c.body = frame.Mine([]byte(told), replica, region, place)
		c.version, c.incarnation = x.Index, x.Incarnation
	}
	return l
}

// carry performs steps, as far as the power lasts.
func (m *shadow) carry(steps []step) api.Errno {
	for _, s := range steps {
		if !m.write(s) || !m.flush() {
			return api.ErrDown
		}
	}
	return api.OK
}

// change performs one random call on a disk and on its shadow.
func change(t *testing.T, r *rand.Rand, d *disk.Disk, m *shadow) {
	t.Helper()
	replica, region := r.Intn(2), 1+r.Intn(2)
	sector := r.Intn(5)
	l := m.copies(replica, region)
	switch r.Intn(12) {
	case 0, 1, 2:
		body := filled(r.Intn(3), byte(r.Intn(2)))
		incarnation := 1 + r.Intn(3)
		steps, e := l.stores(t, incarnation, body)
		if e == api.OK {
			e = m.carry(steps)
		}
		wantStore(t, d, replica, region, incarnation, body, e)
	case 3, 4:
		steps, e := l.heals(t)
		if e == api.OK {
			e = m.carry(steps)
		}
		wantHeal(t, d, replica, region, e)
	case 5:
		x := tag.Tag{Replica: replica, Region: region, Place: r.Intn(2), Index: []int{0, 1, 2, maxNumber - 1, maxNumber}[r.Intn(5)], Incarnation: 1}
		s := step{sector, string(sealed(t, x, filled(r.Intn(2), 1)))}
		m.write(s)
		write(t, d, s.sector, []byte(s.bytes))
	case 6:
		m.write(step{sector, string(make([]byte, wide))})
		write(t, d, sector, make([]byte, wide))
	case 7:
		m.flush()
		want(t, "flush", d.Flush(), api.OK)
	case 8:
		bit := r.Intn(2)
		want(t, "flip", d.Flip(sector, bit), api.OK)
		b := []byte(m.rest[sector])
		b[0] ^= 1 << bit
		m.rest[sector] = string(b)
	case 9:
		want(t, "lose", d.Lose(sector), api.OK)
		m.lost[sector] = true
	case 10:
		from := r.Intn(5)
		want(t, "stray", d.Stray(from, sector), api.OK)
		m.rest[sector], m.lost[sector] = m.rest[from], m.lost[from]
	case 11:
		m.power = r.Intn(5)
		want(t, "power", d.Power(m.power), api.OK)
		body := filled(r.Intn(3), byte(r.Intn(2)))
		steps, e := l.stores(t, 9, body)
		if e == api.OK {
			e = m.carry(steps)
		}
		wantStore(t, d, replica, region, 9, body, e)
		keep := []bool{r.Intn(2) == 0, r.Intn(2) == 0, r.Intn(2) == 0, r.Intn(2) == 0}
		want(t, "crash", d.Crash(keep), api.OK)
		want(t, "start", d.Start(), api.OK)
		m.crash(keep)
	}
}

// TestAsDefined performs random calls, with faults and crashes between, and holds all that is told against the chapter.
func TestAsDefined(t *testing.T) { // P7.1, P7.2, P7.3
	r := rand.New(rand.NewSource(1))
	told := map[api.Errno]int{}
	for range 300 {
		d, m := made(t, all), newShadow(all)
		for range 60 {
			change(t, r, d, m)
			for _, l := range []laid{m.copies(0, 1), m.copies(0, 2), m.copies(1, 1), m.copies(1, 2)} {
				at, e := l.loaded()
				told[e]++
				if at < 0 {
					wantLoadError(t, d, l.replica, l.region, e)
				} else {
					wantLoad(t, d, l.replica, l.region, l.c[at].version, l.c[at].body...)
				}
			}
			rest := slices.Clone(m.rest)
			for s, lost := range m.lost {
				if lost {
					rest[s] = "lost"
				}
			}
			wantRest(t, d, rest)
			if d.Waits() != len(m.pending) {
				t.Errorf("%d are pending; want %d", d.Waits(), len(m.pending))
			}
			if t.Failed() {
				return
			}
		}
	}
	if told[api.OK] < 5000 || told[api.ErrCell] < 5000 {
		t.Errorf("%v", told)
	}
}
