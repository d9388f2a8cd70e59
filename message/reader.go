package message

import (
	"sexton/api"
	"sexton/entry"
	"sexton/octet"
)

// reader reads one thing after another. What the input is too short for is read as zero, and not passed over, as the next offset is 0 then.
type reader struct{ rest []byte }

func (r *reader) number(width int) int {
	n, next, _ := octet.Get(r.rest, 0, width)
	r.rest = r.rest[next:]
	return n
}

func (r *reader) kind() uint8 { return uint8(r.number(kindWidth)) }

func (r *reader) text() string {
	s, next, _ := octet.Read(r.rest, 0)
	r.rest = r.rest[next:]
	return s
}

func (r *reader) ballot() api.Ballot {
	return api.Ballot{Round: r.number(numberWidth), Replica: r.number(partyWidth)}
}

func (r *reader) entry() api.Entry {
	e, next, _ := entry.Read(r.rest, 0)
	r.rest = r.rest[next:]
	return e
}

// report reads a report, which need not be valid.
func (r *reader) report() api.Report {
	p := api.Report{Index: r.number(numberWidth), State: r.kind()}
	if p.State != api.ReBlind {
		p.Ballot = r.ballot()
	}
	if p.State == api.ReIntact {
		p.Entry = r.entry()
	}
	return p
}
