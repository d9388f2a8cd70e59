package message_test

import (
	"bytes"
	"math/rand"
	"testing"

	"sexton/api"
	"sexton/message"
)

// anyNumber returns a number up to most, often one of the bounds.
func anyNumber(r *rand.Rand, least, most int) int {
	switch r.Intn(4) {
	case 0:
		return least
	case 1:
		return most
	}
	return least + r.Intn(most-least+1)>>r.Intn(40)
}

func anyText(r *rand.Rand, least, most int) string {
	b := make([]byte, least+r.Intn(most-least+1))
	r.Read(b)
	return string(b)
}

func anyBallot(r *rand.Rand, n int) api.Ballot {
	return api.Ballot{Round: anyNumber(r, 1, maxNumber), Replica: r.Intn(n)}
}

func anyEntry(r *rand.Rand) api.Entry {
	if r.Intn(3) == 0 {
		return api.Entry{Kind: 1}
	}
	o := api.Op{Kind: uint8(2 + r.Intn(3)), Key: anyText(r, 1, 8)}
	if o.Kind != 3 {
		o.Value = anyText(r, 0, 16)
	}
	if o.Kind == 4 {
		o.Old = anyText(r, 0, 16)
	}
	return api.Entry{Kind: 2, Client: r.Intn(4), Seq: anyNumber(r, 1, maxNumber), Op: o}
}

func anyReports(r *rand.Rand, n int) []api.Report {
	var l []api.Report
	index := 0
	for range r.Intn(25) {
		index += 1 + r.Intn(1<<r.Intn(35))
		x := api.Report{Index: index, State: uint8(2 + r.Intn(3))}
		if x.State != 4 {
			x.Ballot = anyBallot(r, n)
		}
		if x.State == 2 {
			x.Entry = anyEntry(r)
		}
		l = append(l, x)
	}
	return l
}

// anyMessage returns a valid message for n replicas.
func anyMessage(r *rand.Rand, n int) api.Message {
	chunk := r.Intn(8)
	m := only(api.Message{
		Kind: uint8(1 + r.Intn(15)), Ballot: anyBallot(r, n),
		Index: anyNumber(r, 1, maxNumber), Commit: anyNumber(r, 0, maxNumber), Nonce: anyNumber(r, 0, maxNumber), Seq: anyNumber(r, 1, maxNumber),
		Chunk: chunk, Count: chunk + 1 + r.Intn(8-chunk),
		Entry: anyEntry(r), Op: api.Op{Kind: uint8(r.Intn(256)), Key: anyText(r, 0, 16), Old: anyText(r, 0, 16), Value: anyText(r, 0, 16)},
		Reply:   api.Reply{Err: api.Errno(r.Intn(1000)), Found: r.Intn(2) == 0, Value: anyText(r, 0, 16)},
		Reports: anyReports(r, n), Bytes: []byte(anyText(r, 1, 80)),
	})
	m.From = r.Intn(n)
	m.To = (m.From + 1 + r.Intn(n-1)) % n
	if shapes[m.Kind].from == 'c' {
		m.From = -1 - r.Intn(4)
	}
	if shapes[m.Kind].to == 'c' {
		m.To = -1 - r.Intn(4)
	}
	return m
}

// TestRoundTrip prints and parses messages of all sorts.
func TestRoundTrip(t *testing.T) { // P20.2, P20.3, P20.6
	r := rand.New(rand.NewSource(20))
	for range 20000 {
		n := 3 + 2*r.Intn(3)
		m := anyMessage(r, n)
		for _, other := range []int{3, 5, 7} {
			if !wantPrint(t, m, other) && other >= n {
				t.Fatalf("%+v is not valid for %d", m, other)
			}
		}
	}
}

// TestMore holds messages for fewer replicas against the same ones for more.
func TestMore(t *testing.T) { // P20.6
	r := rand.New(rand.NewSource(21))
	for range 5000 {
		n := 3 + 2*r.Intn(2)
		m := anyMessage(r, n)
		b, _ := message.Print(m, n)
		for more := n + 2; more <= 7; more += 2 {
			if x, e := message.Print(m, more); e != api.OK || !bytes.Equal(x, b) || !message.May(m, more) {
				t.Fatalf("%+v is %v for %d, and %v, %d for %d", m, b, n, x, e, more)
			}
			if x, e := message.Parse(b, more); e != api.OK || !equal(x, m) {
				t.Fatalf("%v is %+v for %d, and %+v, %d for %d", b, m, n, x, e, more)
			}
		}
	}
}

// TestPrefix cuts and lengthens encodings of all sorts, by bytes of all sorts.
func TestPrefix(t *testing.T) { // P20.4
	r := rand.New(rand.NewSource(22))
	for range 5000 {
		n := 3 + 2*r.Intn(3)
		b := encoded(anyMessage(r, n))
		more := []byte(anyText(r, 1, 20))
		for _, x := range [][]byte{b[:r.Intn(len(b))], append(bytes.Clone(b), more...), append(bytes.Clone(b), encoded(anyMessage(r, n))...)} {
			if m, e := message.Parse(x, n); e != api.ErrMessage || !equal(m, api.Message{}) {
				t.Fatalf("%v, of %v, is %+v, %d", x, b, m, e)
			}
		}
	}
}

// TestAnyBytes reads encodings of which some bytes are changed, taken out or put in, and bytes of all sorts.
func TestAnyBytes(t *testing.T) { // P20.2, P20.3
	r := rand.New(rand.NewSource(23))
	right := 0
	for range 60000 {
		n := 3 + 2*r.Intn(3)
		b := encoded(anyMessage(r, n))
		if r.Intn(8) == 0 {
			b = []byte(anyText(r, 0, 30))
		}
		for range r.Intn(4) {
			at := r.Intn(len(b) + 1)
			switch r.Intn(4) {
			case 0:
				b = append(b[:at:at], append([]byte(anyText(r, 1, 3)), b[at:]...)...)
			case 1:
				b = append(b[:at:at], b[min(len(b), at+1+r.Intn(3)):]...)
			default:
				if at < len(b) {
					b[at] = byte(r.Intn(256) >> r.Intn(8))
				}
			}
		}
		if wantParse(t, b, n) {
			right++
		}
	}
	if right < 10000 || right > 50000 {
		t.Errorf("%d are messages", right)
	}
}

// TestAnyChanges sets several fields of a message at once.
func TestAnyChanges(t *testing.T) { // P20.1, P20.2, P20.5
	r := rand.New(rand.NewSource(24))
	var l []change
	for _, name := range []string{"Kind", "From", "To", "Ballot", "Index", "Commit", "Nonce", "Chunk", "Count", "Seq", "Entry", "Op", "Reply", "Reports", "Bytes"} {
		c := changes()[name]
		for range 40 {
			l = append(l, c[r.Intn(len(c))])
		}
	}
	for range 100000 {
		n := 3 + 2*r.Intn(3)
		m := anyMessage(r, n)
		for range 1 + r.Intn(3) {
			l[r.Intn(len(l))](&m)
		}
		wantPrint(t, m, n)
	}
}
