package message

import (
	"sexton/api"
	"sexton/entry"
	"sexton/octet"
)

type reportsField []api.Report

func (f *reportsField) may(n int) bool {
	if len(*f) > api.Slots {
		return false
	}
	least := 1
	for _, p := range *f {
		if !isWithin(least, p.Index, api.MaxNumber) || !mayState(p, n) {
			return false
		}
		least = p.Index + 1
	}
	return true
}

// mayState reports whether a report's state is one that is told, and its ballot and its entry are as they are with that.
func mayState(p api.Report, n int) bool {
	switch p.State {
	case api.ReIntact:
		return mayBallot(p.Ballot, n) && entry.May(p.Entry)
	case api.ReLost:
		return mayBallot(p.Ballot, n) && p.Entry == api.Entry{}
	case api.ReBlind:
		return p.Ballot == api.Ballot{} && p.Entry == api.Entry{}
	}
	return false
}

func (f *reportsField) bytes() []byte {
	b := put(reportsWidth, len(*f))
	for _, p := range *f {
		b = octet.Join(b, putReport(p))
	}
	return b
}

// putReport returns the encoding of a valid report.
func putReport(p api.Report) []byte {
	b := octet.Join(put(numberWidth, p.Index), put(kindWidth, int(p.State)))
	if p.State != api.ReBlind {
		b = octet.Join(b, putBallot(p.Ballot))
	}
	if p.State == api.ReIntact {
		b = octet.Join(b, putEntry(p.Entry))
	}
	return b
}

func (f *reportsField) read(r *reader) {
	for range r.number(reportsWidth) {
		*f = append(*f, r.report())
	}
}

func (f *reportsField) empty() { *f = nil }
