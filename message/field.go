package message

import (
	"sexton/api"
	"sexton/ballot"
	"sexton/entry"
	"sexton/octet"
)

// The widths of the numbers of an encoding.
const (
	kindWidth    = 1
	partyWidth   = 1
	numberWidth  = 6
	chunkWidth   = 1
	errWidth     = 2
	foundWidth   = 1
	reportsWidth = 1
)

// firstClient is the byte for client 0, whose number as From or To is -1.
const firstClient = 128

// mostErr is the greatest Err of a reply.
const mostErr = 999

// field is one of a message.
type field interface {
	may(n int) bool // it is as described, for n replicas
	bytes() []byte  // its encoding, if it may be so
	read(r *reader)
	empty()
}

// fieldOf returns the message's field of a letter that stands in the table.
func fieldOf(m *api.Message, letter rune) field {
	switch letter {
	case 'f':
		return (*replicaField)(&m.From)
	case 'F':
		return (*clientField)(&m.From)
	case 't':
		return (*replicaField)(&m.To)
	case 'T':
		return (*clientField)(&m.To)
	case 's':
		return numberField{&m.Seq, numberWidth, 1, api.MaxNumber}
	case 'i':
		return numberField{&m.Index, numberWidth, 1, api.MaxNumber}
	case 'p': // a snapshot's index
		return numberField{&m.Index, numberWidth, 0, api.MaxNumber}
	case 'c':
		return numberField{&m.Commit, numberWidth, 0, api.MaxNumber}
	case 'x':
		return numberField{&m.Nonce, numberWidth, 0, api.MaxNumber}
	case 'k':
		return numberField{&m.Chunk, chunkWidth, 0, api.Chunks - 1}
	case 'n':
		return numberField{&m.Count, chunkWidth, m.Chunk + 1, api.Chunks}
	case 'b':
		return (*ballotField)(&m.Ballot)
	case 'o':
		return (*operationField)(&m.Op)
	case 'e':
		return (*entryField)(&m.Entry)
	case 'r':
		return (*replyField)(&m.Reply)
	case 'y':
		return (*bytesField)(&m.Bytes)
	}
	return (*reportsField)(&m.Reports) // 'l'
}

// isWithin reports whether n is from least to most.
func isWithin(least, n, most int) bool { return least <= n && n <= most }

// put returns the encoding of a number that fits the width, as each valid one does.
func put(width, n int) []byte {
	b, _ := octet.Put(width, n)
	return b
}

// putText returns the encoding of a text that is not too long, as each valid one is.
func putText(s string) []byte {
	b, _ := octet.Text(s)
	return b
}

// isText reports whether the text is not too long for an operation or a reply.
func isText(s string) bool { return len(s) <= api.MaxValue }

// replicaField is a From or To that is a replica.
type replicaField int

// may asks whether the replica could have a ballot, which tells at once whether there may be n replicas.
func (f *replicaField) may(n int) bool {
	return ballot.May(api.Ballot{Round: 1, Replica: int(*f)}, n)
}
func (f *replicaField) bytes() []byte  { return put(partyWidth, int(*f)) }
func (f *replicaField) read(r *reader) { *f = replicaField(r.number(partyWidth)) }
func (f *replicaField) empty()         { *f = 0 }

// clientField is a From or To that is a client.
type clientField int

func (f *clientField) may(int) bool   { return isWithin(-api.Clients, int(*f), -1) }
func (f *clientField) bytes() []byte  { return put(partyWidth, firstClient-1-int(*f)) }
func (f *clientField) read(r *reader) { *f = clientField(firstClient - 1 - r.number(partyWidth)) }
func (f *clientField) empty()         { *f = 0 }

// numberField is a number with bounds.
type numberField struct {
	value              *int
	width, least, most int
}

func (f numberField) may(int) bool   { return isWithin(f.least, *f.value, f.most) }
func (f numberField) bytes() []byte  { return put(f.width, *f.value) }
func (f numberField) read(r *reader) { *f.value = r.number(f.width) }
func (f numberField) empty()         { *f.value = 0 }

type ballotField api.Ballot

func (f *ballotField) may(n int) bool { return mayBallot(api.Ballot(*f), n) }
func (f *ballotField) bytes() []byte  { return putBallot(api.Ballot(*f)) }
func (f *ballotField) read(r *reader) { *f = ballotField(r.ballot()) }
func (f *ballotField) empty()         { *f = ballotField{} }

// mayBallot reports whether the ballot is one of n replicas other than none.
func mayBallot(b api.Ballot, n int) bool { return b != api.Ballot{} && ballot.May(b, n) }

func putBallot(b api.Ballot) []byte {
	return octet.Join(put(numberWidth, b.Round), put(partyWidth, b.Replica))
}

type operationField api.Op

// may refuses no kind: whether the operation is valid is for a replica to tell.
func (f *operationField) may(int) bool {
	return isText(f.Key) && isText(f.Old) && isText(f.Value)
}
func (f *operationField) bytes() []byte {
	return octet.Join(put(kindWidth, int(f.Kind)), putText(f.Key), putText(f.Old), putText(f.Value))
}
func (f *operationField) read(r *reader) {
	*f = operationField{Kind: r.kind(), Key: r.text(), Old: r.text(), Value: r.text()}
}
func (f *operationField) empty() { *f = operationField{} }

type entryField api.Entry

func (f *entryField) may(int) bool   { return entry.May(api.Entry(*f)) }
func (f *entryField) bytes() []byte  { return putEntry(api.Entry(*f)) }
func (f *entryField) read(r *reader) { *f = entryField(r.entry()) }
func (f *entryField) empty()         { *f = entryField{} }

// putEntry returns the encoding of a valid entry.
func putEntry(e api.Entry) []byte {
	b, _ := entry.Bytes(e)
	return b
}

type replyField api.Reply

func (f *replyField) may(int) bool { return isWithin(0, int(f.Err), mostErr) && isText(f.Value) }
func (f *replyField) bytes() []byte {
	found := 0
	if f.Found {
		found = 1
	}
	return octet.Join(put(errWidth, int(f.Err)), put(foundWidth, found), putText(f.Value))
}
func (f *replyField) read(r *reader) {
	*f = replyField{Err: api.Errno(r.number(errWidth)), Found: r.number(foundWidth) == 1, Value: r.text()}
}
func (f *replyField) empty() { *f = replyField{} }

type bytesField []byte

func (f *bytesField) may(int) bool   { return isWithin(1, len(*f), api.ChunkSize) }
func (f *bytesField) bytes() []byte  { return putText(string(*f)) }
func (f *bytesField) read(r *reader) { *f = []byte(r.text()) }
func (f *bytesField) empty()         { *f = nil }
