package message_test

import (
	"math"
	"reflect"
	"slices"
	"strings"

	"sexton/api"
)

// The limits of the chapter and of api, as numbers.
const (
	maxNumber = 1 << 40
	maxText   = 16
	maxBytes  = 80
	maxSlots  = 24
	chunks    = 8
)

// a shape is a line of the chapter's table: c or r for a client or a replica, and the fields' names.
type shape struct {
	from, to byte
	fields   string
}

var shapes = map[uint8]shape{
	1:  {'c', 'r', "seq op"},
	2:  {'r', 'c', "seq reply"},
	3:  {'r', 'r', "ballot index"},
	4:  {'r', 'r', "ballot snapshot commit reports"},
	5:  {'r', 'r', "ballot"},
	6:  {'r', 'r', "ballot index commit entry"},
	7:  {'r', 'r', "ballot index"},
	8:  {'r', 'r', "ballot commit nonce"},
	9:  {'r', 'r', "ballot nonce"},
	10: {'r', 'r', "index"},
	11: {'r', 'r', "ballot index entry"},
	12: {'r', 'r', "snapshot chunk"},
	13: {'r', 'r', "snapshot chunk count bytes"},
	14: {'r', 'r', "index"},
	15: {'r', 'r', "snapshot chunk"},
}

// has returns the names of the kind's fields.
func has(kind uint8) []string { return strings.Fields(shapes[kind].fields) }

// within reports whether n is from least to most.
func within(least, n, most int) bool { return n >= least && n <= most }

func isSize(n int) bool { return n == 3 || n == 5 || n == 7 }

func isParty(sort byte, who, n int) bool {
	if sort == 'c' {
		return who == -1 || who == -2 || who == -3 || who == -4
	}
	return within(0, who, n-1)
}

func isBallot(b api.Ballot, n int) bool {
	return within(1, b.Round, maxNumber) && within(0, b.Replica, n-1)
}

func isEntry(e api.Entry) bool {
	o := e.Op
	if e.Kind == 1 {
		return e.Client == 0 && e.Seq == 0 && o.Kind == 0 && o.Key == "" && o.Old == "" && o.Value == ""
	}
	if e.Kind != 2 || !within(0, e.Client, 3) || !within(1, e.Seq, maxNumber) || !within(1, len(o.Key), 8) {
		return false
	}
	switch o.Kind {
	case 2:
		return o.Old == "" && len(o.Value) <= maxText
	case 3:
		return o.Old == "" && o.Value == ""
	case 4:
		return len(o.Old) <= maxText && len(o.Value) <= maxText
	}
	return false
}

func isReports(l []api.Report, n int) bool {
	for i, r := range l {
		if !within(1, r.Index, maxNumber) || i > 0 && l[i-1].Index >= r.Index {
			return false
		}
		noEntry := r.Entry == api.Entry{}
		switch {
		case r.State == 2 && isBallot(r.Ballot, n) && isEntry(r.Entry):
		case r.State == 3 && isBallot(r.Ballot, n) && noEntry:
		case r.State == 4 && r.Ballot == api.Ballot{} && noEntry:
		default:
			return false
		}
	}
	return len(l) <= maxSlots
}

// isField reports whether the message's field of the name is as the chapter describes it.
func isField(m api.Message, name string, n int) bool {
	switch name {
	case "seq":
		return within(1, m.Seq, maxNumber)
	case "index":
		return within(1, m.Index, maxNumber)
	case "snapshot":
		return within(0, m.Index, maxNumber)
	case "commit":
		return within(0, m.Commit, maxNumber)
	case "nonce":
		return within(0, m.Nonce, maxNumber)
	case "ballot":
		return isBallot(m.Ballot, n)
	case "op":
		return len(m.Op.Key) <= maxText && len(m.Op.Old) <= maxText && len(m.Op.Value) <= maxText
	case "entry":
		return isEntry(m.Entry)
	case "reply":
		return within(0, int(m.Reply.Err), 999) && len(m.Reply.Value) <= maxText
	case "chunk":
		return within(0, m.Chunk, chunks-1)
	case "count":
		return m.Count > m.Chunk && m.Count <= chunks
	case "bytes":
		return within(1, len(m.Bytes), maxBytes)
	case "reports":
		return isReports(m.Reports, n)
	}
	panic(name)
}

// only returns the message with the fields that its kind has, and without all others.
func only(m api.Message) api.Message {
	x := api.Message{Kind: m.Kind, From: m.From, To: m.To}
	for _, name := range has(m.Kind) {
		switch name {
		case "seq":
			x.Seq = m.Seq
		case "index", "snapshot":
			x.Index = m.Index
		case "commit":
			x.Commit = m.Commit
		case "nonce":
			x.Nonce = m.Nonce
		case "ballot":
			x.Ballot = m.Ballot
		case "op":
			x.Op = m.Op
		case "entry":
			x.Entry = m.Entry
		case "reply":
			x.Reply = m.Reply
		case "chunk":
			x.Chunk = m.Chunk
		case "count":
			x.Count = m.Count
		case "bytes":
			x.Bytes = m.Bytes
		case "reports":
			x.Reports = m.Reports
		}
	}
	return x
}

// copied returns a message that shares no memory with m, with nil for each empty list.
func copied(m api.Message) api.Message {
	m.Reports = append([]api.Report(nil), m.Reports...)
	m.Bytes = append([]byte(nil), m.Bytes...)
	return m
}

// equal compares two messages in all their fields, whatever these are.
func equal(a, b api.Message) bool { return reflect.DeepEqual(copied(a), copied(b)) }

// isMessage reports whether the message is valid for n replicas.
func isMessage(m api.Message, n int) bool {
	s, ok := shapes[m.Kind]
	if !ok || !isSize(n) || !isParty(s.from, m.From, n) || !isParty(s.to, m.To, n) || m.From == m.To {
		return false
	}
	for _, name := range has(m.Kind) {
		if !isField(m, name, n) {
			return false
		}
	}
	return equal(m, only(m))
}

// six returns a number's lowest six bytes.
func six(n int) []byte {
	return []byte{byte(n), byte(n >> 8), byte(n >> 16), byte(n >> 24), byte(n >> 32), byte(n >> 40)}
}

func ballotBytes(b api.Ballot) []byte { return append(six(b.Round), byte(b.Replica)) }

func textBytes(s string) []byte { return append([]byte{byte(len(s))}, s...) }

func opBytes(o api.Op) []byte {
	return slices.Concat([]byte{o.Kind}, textBytes(o.Key), textBytes(o.Old), textBytes(o.Value))
}

func entryBytes(e api.Entry) []byte {
	if e.Kind == 1 {
		return []byte{1}
	}
	return slices.Concat([]byte{e.Kind, byte(e.Client)}, six(e.Seq), opBytes(e.Op))
}

func replyBytes(r api.Reply) []byte {
	b := []byte{byte(r.Err), byte(r.Err >> 8), 0}
	if r.Found {
		b[2] = 1
	}
	return append(b, textBytes(r.Value)...)
}

func reportsBytes(l []api.Report) []byte {
	b := []byte{byte(len(l))}
	for _, r := range l {
		b = append(append(b, six(r.Index)...), r.State)
		if r.State == 2 || r.State == 3 {
			b = append(b, ballotBytes(r.Ballot)...)
		}
		if r.State == 2 {
			b = append(b, entryBytes(r.Entry)...)
		}
	}
	return b
}

func partyByte(who int) byte {
	if who < 0 {
		return byte(128 + (-1 - who))
	}
	return byte(who)
}

func fieldBytes(m api.Message, name string) []byte {
	switch name {
	case "seq":
		return six(m.Seq)
	case "index", "snapshot":
		return six(m.Index)
	case "commit":
		return six(m.Commit)
	case "nonce":
		return six(m.Nonce)
	case "ballot":
		return ballotBytes(m.Ballot)
	case "op":
		return opBytes(m.Op)
	case "entry":
		return entryBytes(m.Entry)
	case "reply":
		return replyBytes(m.Reply)
	case "chunk":
		return []byte{byte(m.Chunk)}
	case "count":
		return []byte{byte(m.Count)}
	case "bytes":
		return append([]byte{byte(len(m.Bytes))}, m.Bytes...)
	case "reports":
		return reportsBytes(m.Reports)
	}
	panic(name)
}

// encoded returns the encoding of a valid message.
func encoded(m api.Message) []byte {
	b := []byte{m.Kind, partyByte(m.From), partyByte(m.To)}
	for _, name := range has(m.Kind) {
		b = append(b, fieldBytes(m, name)...)
	}
	return b
}

// a cursor takes bytes from the front; once there are too few it has failed.
type cursor struct {
	b      []byte
	failed bool
}

func (c *cursor) take(n int) []byte {
	if c.failed || n > len(c.b) {
		c.failed = true
		return make([]byte, n)
	}
	x := c.b[:n]
	c.b = c.b[n:]
	return x
}

func (c *cursor) one() byte { return c.take(1)[0] }

func (c *cursor) six() int {
	n := 0
	for _, x := range slices.Backward(c.take(6)) {
		n = n*256 + int(x)
	}
	return n
}

func (c *cursor) text() string { return string(c.take(int(c.one()))) }

func (c *cursor) party() int {
	x := int(c.one())
	if x >= 128 {
		return -1 - (x - 128)
	}
	return x
}

func (c *cursor) ballot() (b api.Ballot) {
	b.Round = c.six()
	b.Replica = int(c.one())
	return b
}

func (c *cursor) op() (o api.Op) {
	o.Kind = c.one()
	o.Key = c.text()
	o.Old = c.text()
	o.Value = c.text()
	return o
}

func (c *cursor) entry() (e api.Entry) {
	e.Kind = c.one()
	if e.Kind == 2 {
		e.Client = int(c.one())
		e.Seq = c.six()
		e.Op = c.op()
	}
	return e
}

func (c *cursor) reply() (r api.Reply) {
	low := c.one()
	r.Err = api.Errno(low) + 256*api.Errno(c.one())
	found := c.one()
	c.failed = c.failed || found > 1
	r.Found = found == 1
	r.Value = c.text()
	return r
}

func (c *cursor) reports() (l []api.Report) {
	for n := int(c.one()); n > 0 && !c.failed; n-- {
		r := api.Report{Index: c.six()}
		r.State = c.one()
		if r.State == 2 || r.State == 3 {
			r.Ballot = c.ballot()
		}
		if r.State == 2 {
			r.Entry = c.entry()
		}
		l = append(l, r)
	}
	return l
}

// decoded returns the valid message for n replicas whose encoding is b, or false.
func decoded(b []byte, n int) (api.Message, bool) {
	c := &cursor{b: b}
	m := api.Message{Kind: c.one()}
	m.From = c.party()
	m.To = c.party()
	for _, name := range has(m.Kind) {
		switch name {
		case "seq":
			m.Seq = c.six()
		case "index", "snapshot":
			m.Index = c.six()
		case "commit":
			m.Commit = c.six()
		case "nonce":
			m.Nonce = c.six()
		case "ballot":
			m.Ballot = c.ballot()
		case "op":
			m.Op = c.op()
		case "entry":
			m.Entry = c.entry()
		case "reply":
			m.Reply = c.reply()
		case "chunk":
			m.Chunk = int(c.one())
		case "count":
			m.Count = int(c.one())
		case "bytes":
			m.Bytes = []byte(c.text())
		case "reports":
			m.Reports = c.reports()
		}
	}
	if c.failed || len(c.b) > 0 || !isMessage(m, n) {
		return api.Message{}, false
	}
	return m, true
}

// sizes holds numbers of replicas, right ones and wrong ones.
var sizes = []int{3, 5, 7, 0, 1, 2, 4, 6, 8, 9, -1, -3, -5, -7, 255, 256 + 3, 1<<32 + 5, math.MinInt, math.MinInt + 3, math.MaxInt - 1, math.MaxInt}

// far holds the numbers that are farthest from all that are right, and some that are right in their lowest bytes.
var far = []int{math.MinInt, math.MinInt + 1, math.MinInt + 2, -1 << 48, -1 << 40, -1<<32 + 1, -256, -255, -129, -128, -127, 1<<48 - 1, 1 << 48, 1<<48 + 1, 1<<56 + 2, 1 << 62, math.MaxInt - 1, math.MaxInt}

var (
	numbers  = append([]int{-9, -3, -2, -1, 0, 1, 2, 3, 6, 7, 8, 9, 10, 127, 128, 129, 255, 256, 257, 258, 1 << 16, 1<<32 - 1, 1 << 32, maxNumber - 1, maxNumber, maxNumber + 1, maxNumber + 2, 2 * maxNumber}, far...)
	parties  = append([]int{-7, -6, -5, -4, -3, -2, -1, 0, 1, 2, 3, 4, 5, 6, 7, 8, 127, 128, 129, 130, 131, 132, 133, 254, 255, 256, 257, 258}, far...)
	errnos   = append([]int{-2, -1, 0, 1, 2, 255, 256, 257, 270, 998, 999, 1000, 1001, 1<<16 - 1, 1 << 16, 1<<16 + 1}, far...)
	kinds    = []uint8{0, 1, 2, 3, 4, 5, 6, 7, 8, 9, 10, 11, 12, 13, 14, 15, 16, 17, 31, 127, 128, 129, 143, 200, 254, 255}
	lengths  = []int{0, 1, 2, 15, 16, 17, 18, 79, 80, 81, 82, 96, 255, 256, 257, 256 + 16, 256 + 80}
	anyBytes = func() []byte {
		b := make([]byte, 400)
		for i := range b {
			b[i] = byte(i*37 + 200)
		}
		return b
	}()
)

// texts returns texts of all lengths: with zero bytes, the greatest ones, and bytes of all sorts.
func texts() []string {
	var l []string
	for _, n := range lengths {
		l = append(l, strings.Repeat("\x00", n), strings.Repeat("\xff", n), string(anyBytes[:n]))
	}
	return l
}

func ballots() []api.Ballot {
	var l []api.Ballot
	for _, round := range numbers {
		for _, replica := range []int{0, 1, 2} {
			l = append(l, api.Ballot{Round: round, Replica: replica})
		}
	}
	for _, replica := range parties {
		for _, round := range []int{0, 1, maxNumber} {
			l = append(l, api.Ballot{Round: round, Replica: replica})
		}
	}
	return l
}

func ops() []api.Op {
	var l []api.Op
	for _, kind := range kinds {
		l = append(l, api.Op{Kind: kind}, api.Op{Kind: kind, Key: "k", Old: "o", Value: "v"})
	}
	for _, s := range texts() {
		l = append(l, api.Op{Key: s}, api.Op{Old: s}, api.Op{Value: s}, api.Op{Kind: 4, Key: s, Old: s, Value: s}, api.Op{Kind: 2, Key: "k", Value: s})
	}
	return l
}

func entries() []api.Entry {
	put := api.Op{Kind: 2, Key: "k", Value: "v"}
	l := []api.Entry{{Kind: 1, Client: 1}, {Kind: 1, Seq: 1}, {Client: 1}, {Seq: 1}, {Kind: 1, Op: put}, {Op: put}}
	for _, kind := range kinds {
		l = append(l, api.Entry{Kind: kind}, api.Entry{Kind: kind, Client: 1, Seq: 2, Op: put})
	}
	for _, x := range numbers {
		l = append(l, api.Entry{Kind: 2, Client: x, Seq: 1, Op: put}, api.Entry{Kind: 2, Client: 3, Seq: x, Op: put})
	}
	for _, o := range ops() {
		l = append(l, api.Entry{Kind: 2, Client: 0, Seq: maxNumber, Op: o}, api.Entry{Kind: 1, Op: o})
	}
	for _, s := range texts() {
		l = append(l, api.Entry{Kind: 2, Seq: 1, Op: api.Op{Kind: 3, Key: s}}, api.Entry{Kind: 2, Seq: 1, Op: api.Op{Kind: 4, Key: "eightlet", Old: s}}, api.Entry{Kind: 2, Seq: 1, Op: api.Op{Kind: 4, Key: "k", Value: s}})
	}
	return l
}

func replies() []api.Reply {
	var l []api.Reply
	for _, e := range errnos {
		l = append(l, api.Reply{Err: api.Errno(e)}, api.Reply{Err: api.Errno(e), Found: true, Value: "v"})
	}
	for _, s := range texts() {
		l = append(l, api.Reply{Value: s}, api.Reply{Err: 999, Found: true, Value: s})
	}
	return l
}

// someReport returns the report of an index that is valid for 3 replicas, in each of the states in turn.
func someReport(index int) api.Report {
	b := api.Ballot{Round: index, Replica: index % 3}
	switch index % 4 {
	case 0:
		return api.Report{Index: index, State: 2, Ballot: b, Entry: api.Entry{Kind: 1}}
	case 1:
		return api.Report{Index: index, State: 2, Ballot: b, Entry: api.Entry{Kind: 2, Client: 3, Seq: index, Op: api.Op{Kind: 4, Key: "key", Old: "old", Value: "sixteen letters!"}}}
	case 2:
		return api.Report{Index: index, State: 3, Ballot: b}
	}
	return api.Report{Index: index, State: 4}
}

// run returns the reports of indices, each so far behind the one before.
func run(first, step, n int) []api.Report {
	var l []api.Report
	for i := range n {
		l = append(l, someReport(first+i*step))
	}
	return l
}

// longest returns the longest reports that there are.
func longest() []api.Report {
	l := run(maxNumber-23, 1, 24)
	for i := range l {
		l[i] = api.Report{Index: l[i].Index, State: 2, Ballot: api.Ballot{Round: maxNumber, Replica: 2}, Entry: api.Entry{Kind: 2, Client: 3, Seq: maxNumber, Op: api.Op{Kind: 4, Key: "\xff\xff\xff\xff\xff\xff\xff\xff", Old: string(anyBytes[:16]), Value: string(anyBytes[16:32])}}}
	}
	return l
}

func reports() [][]api.Report {
	l := [][]api.Report{nil, {}, {{}}, {{}, {}}, longest(), run(1, 1, 2), run(1, 1, 4), run(1, 1<<33, 4), run(1, 1<<35, 24), run(maxNumber-1, 1, 2), run(maxNumber, 1, 2), make([]api.Report, 24), make([]api.Report, 25)}
	for _, n := range []int{1, 23, 24, 25, 26, 48, 255, 256, 257, 280} {
		l = append(l, run(1, 1, n), run(5, 7, n))
	}
	for index := range 6 {
		l = append(l, []api.Report{someReport(1), someReport(1)}, []api.Report{someReport(index + 2), someReport(index + 1)}, []api.Report{someReport(1), someReport(9), someReport(index + 1)}, []api.Report{someReport(index + 7), someReport(index + 7)})
	}
	for _, x := range numbers {
		l = append(l, []api.Report{{Index: x, State: 4}}, []api.Report{someReport(3), {Index: x, State: 4}}, []api.Report{{Index: x, State: 4}, someReport(300)})
	}
	b, e := api.Ballot{Round: 2, Replica: 1}, api.Entry{Kind: 1}
	for _, state := range kinds {
		l = append(l, []api.Report{{Index: 1, State: state}}, []api.Report{{Index: 1, State: state, Ballot: b}}, []api.Report{{Index: 1, State: state, Entry: e}}, []api.Report{{Index: 1, State: state, Ballot: b, Entry: e}})
	}
	for _, b := range ballots() {
		l = append(l, []api.Report{{Index: 1, State: 2, Ballot: b, Entry: e}}, []api.Report{{Index: 2, State: 3, Ballot: b}}, []api.Report{someReport(1), {Index: 2, State: 4, Ballot: b}})
	}
	for _, e := range entries() {
		l = append(l, []api.Report{{Index: 1, State: 2, Ballot: b, Entry: e}}, []api.Report{{Index: 1, State: 3, Ballot: b, Entry: e}}, []api.Report{{Index: 1, State: 4, Entry: e}})
	}
	return l
}

func someBytes() [][]byte {
	l := [][]byte{nil, {}, {0}, {1}, {255}}
	for _, n := range lengths {
		l = append(l, make([]byte, n), anyBytes[:n])
	}
	return l
}

// a change sets one field of a message.
type change func(m *api.Message)

// each returns for each value the change by which a message gets it.
func each[T any](l []T, set func(m *api.Message, x T)) []change {
	var c []change
	for _, x := range l {
		c = append(c, func(m *api.Message) { set(m, x) })
	}
	return c
}

// changes returns, by the names of api's fields, the changes of each of them to right and to wrong values.
func changes() map[string][]change {
	return map[string][]change{
		"Kind":    each(kinds, func(m *api.Message, x uint8) { m.Kind = x }),
		"From":    each(parties, func(m *api.Message, x int) { m.From = x }),
		"To":      each(parties, func(m *api.Message, x int) { m.To = x }),
		"Ballot":  each(ballots(), func(m *api.Message, x api.Ballot) { m.Ballot = x }),
		"Index":   each(numbers, func(m *api.Message, x int) { m.Index = x }),
		"Commit":  each(numbers, func(m *api.Message, x int) { m.Commit = x }),
		"Nonce":   each(numbers, func(m *api.Message, x int) { m.Nonce = x }),
		"Chunk":   each(numbers, func(m *api.Message, x int) { m.Chunk = x }),
		"Count":   each(numbers, func(m *api.Message, x int) { m.Count = x }),
		"Seq":     each(numbers, func(m *api.Message, x int) { m.Seq = x }),
		"Entry":   each(entries(), func(m *api.Message, x api.Entry) { m.Entry = x }),
		"Op":      each(ops(), func(m *api.Message, x api.Op) { m.Op = x }),
		"Reply":   each(replies(), func(m *api.Message, x api.Reply) { m.Reply = x }),
		"Reports": each(reports(), func(m *api.Message, x []api.Report) { m.Reports = x }),
		"Bytes":   each(someBytes(), func(m *api.Message, x []byte) { m.Bytes = x }),
	}
}

// parts returns for each field of api.Message, and each part of one, the change to the least value that is not zero.
func parts() map[string]change {
	return map[string]change{
		"From":           func(m *api.Message) { m.From = 1 },
		"To":             func(m *api.Message) { m.To = 1 },
		"Ballot.Round":   func(m *api.Message) { m.Ballot.Round = 1 },
		"Ballot.Replica": func(m *api.Message) { m.Ballot.Replica = 1 },
		"Index":          func(m *api.Message) { m.Index = 1 },
		"Commit":         func(m *api.Message) { m.Commit = 1 },
		"Nonce":          func(m *api.Message) { m.Nonce = 1 },
		"Chunk":          func(m *api.Message) { m.Chunk = 1 },
		"Count":          func(m *api.Message) { m.Count = 1 },
		"Seq":            func(m *api.Message) { m.Seq = 1 },
		"Entry.Kind":     func(m *api.Message) { m.Entry.Kind = 1 },
		"Entry.Client":   func(m *api.Message) { m.Entry.Client = 1 },
		"Entry.Seq":      func(m *api.Message) { m.Entry.Seq = 1 },
		"Entry.Op.Kind":  func(m *api.Message) { m.Entry.Op.Kind = 1 },
		"Entry.Op.Key":   func(m *api.Message) { m.Entry.Op.Key = "\x00" },
		"Entry.Op.Old":   func(m *api.Message) { m.Entry.Op.Old = "\x00" },
		"Entry.Op.Value": func(m *api.Message) { m.Entry.Op.Value = "\x00" },
		"Op.Kind":        func(m *api.Message) { m.Op.Kind = 1 },
		"Op.Key":         func(m *api.Message) { m.Op.Key = "\x00" },
		"Op.Old":         func(m *api.Message) { m.Op.Old = "\x00" },
		"Op.Value":       func(m *api.Message) { m.Op.Value = "\x00" },
		"Reply.Err":      func(m *api.Message) { m.Reply.Err = 1 },
		"Reply.Found":    func(m *api.Message) { m.Reply.Found = true },
		"Reply.Value":    func(m *api.Message) { m.Reply.Value = "\x00" },
		"Reports":        func(m *api.Message) { m.Reports = []api.Report{{}} },
		"Bytes":          func(m *api.Message) { m.Bytes = []byte{0} },
	}
}

// least returns the message of the kind with the least value of each field that may be valid, between the first two participants.
func least(kind uint8) api.Message {
	m := only(api.Message{
		Kind: kind, From: 0, To: 1, Ballot: api.Ballot{Round: 1}, Index: 1, Count: 1, Seq: 1,
		Entry: api.Entry{Kind: 1}, Bytes: []byte{0},
	})
	if strings.Contains(shapes[kind].fields, "snapshot") {
		m.Index = 0
	}
	return addressed(m, 3)
}

// most returns the one with the greatest values, between the last two participants of n.
func most(kind uint8, n int) api.Message {
	all := string(anyBytes[100:116])
	m := only(api.Message{
		Kind: kind, From: n - 1, To: n - 2, Ballot: api.Ballot{Round: maxNumber, Replica: n - 1}, Index: maxNumber, Commit: maxNumber, Nonce: maxNumber,
		Chunk: 7, Count: 8, Seq: maxNumber,
		Entry:   api.Entry{Kind: 2, Client: 3, Seq: maxNumber, Op: api.Op{Kind: 4, Key: "\xff\x00\xfe\x01\x80\x7f,k", Old: all, Value: all}},
		Op:      api.Op{Kind: 255, Key: all, Old: string(anyBytes[3:19]), Value: string(anyBytes[7:23])},
		Reply:   api.Reply{Err: 999, Found: true, Value: all},
		Reports: longest(), Bytes: anyBytes[:80],
	})
	return addressed(m, n)
}

// middling returns one with values in between, all of them different.
func middling(kind uint8, n int) api.Message {
	return addressed(only(api.Message{
		Kind: kind, From: n - 1, To: 0, Ballot: api.Ballot{Round: 258, Replica: 2}, Index: 0x010203040506 % maxNumber, Commit: 1<<39 + 5, Nonce: 1<<31 + 77,
		Chunk: 2, Count: 5, Seq: 0x0605040302,
		Entry:   api.Entry{Kind: 2, Client: 1, Seq: 259, Op: api.Op{Kind: 2, Key: "k", Value: "v"}},
		Op:      api.Op{Kind: 1, Key: "k"},
		Reply:   api.Reply{Err: 270, Value: "vw"},
		Reports: run(2, 3, 4), Bytes: []byte{7, 8, 9},
	}), n)
}

// addressed returns the message from and to what its kind asks for: client 0, or 3 if it is of the last replica.
func addressed(m api.Message, n int) api.Message {
	client := -1
	if m.From == n-1 {
		client = -4
	}
	if shapes[m.Kind].from == 'c' {
		m.From = client
	}
	if shapes[m.Kind].to == 'c' {
		m.To = client
	}
	return m
}

// some returns valid messages for n replicas, of each kind.
func some(n int) []api.Message {
	var l []api.Message
	for kind := uint8(1); kind <= 15; kind++ {
		l = append(l, least(kind), middling(kind, n), most(kind, n))
	}
	return l
}
