package store

import (
	"orchard/acceptor"
	"orchard/api"
	"orchard/record"
	"orchard/wire"
)

// A note is a record of the log; these are its kinds.
const (
	notePromise  = 1 // a ballot
	noteAccepted = 2 // a ballot, a slot, an entry
	noteChosen   = 3 // a slot, an entry
)

// note is a record as it is read.
type note struct {
	kind int64
	api.Slotted
}

func promiseNote(b api.Ballot) []byte {
	return begin(notePromise, b.Round, int64(b.Replica)).Out()
}

func acceptedNote(b api.Ballot, slot int64, form []byte) []byte {
	w := begin(noteAccepted, b.Round, int64(b.Replica), slot)
	w.Bytes(form)
	return w.Out()
}

func chosenNote(slot int64, form []byte) []byte {
	w := begin(noteChosen, slot)
	w.Bytes(form)
	return w.Out()
}

// begin is a writer that has some ints. Its errors need not be asked for: a note is far below its limit, or just as long as one that was read.
func begin(l ...int64) *wire.Writer {
	w := wire.NewWriter()
	for _, n := range l {
		w.Int(n)
	}
	return w
}

// formOf are the bytes of an entry that the store holds: it was written so, or read of such bytes, and has a form.
func formOf(e api.Entry) []byte {
	form, _ := record.Entry(e)
	return form
}

// formsOf are the bytes of entries that are to be held.
func formsOf(l ...api.Slotted) ([][]byte, api.Errno) {
	forms := make([][]byte, len(l))
	for i, x := range l {
		form, err := record.Entry(x.Entry)
		if err != api.OK || len(form) > api.MaxEntry {
			return nil, api.ErrArg
		}
		forms[i] = form
	}
	return forms, api.OK
}

// readNote is the note whose bytes b are, if they are those of one.
func readNote(b []byte) (note, bool) {
	r := noteReader{Reader: wire.NewReader(b)}
	n := note{kind: r.int()}
	switch n.kind {
	case notePromise:
		n.Ballot = r.ballot()
	case noteAccepted:
		n.Ballot = r.ballot()
		n.Slot = r.slot()
		n.Entry = r.entry()
	case noteChosen:
		n.Slot = r.slot()
		n.Entry = r.entry()
	default:
		return note{}, false
	}
	r.must(r.End() == api.OK)
	return n, !r.bad
}

// noteReader takes what notes are made of. What is bad once stays bad.
type noteReader struct {
	*wire.Reader
	bad bool
}

func (r *noteReader) must(good bool) { r.bad = r.bad || !good }

func (r *noteReader) int() int64 {
	n, err := r.Int()
	r.must(err == api.OK)
	return n
}

func (r *noteReader) ballot() api.Ballot {
	round, replica := r.int(), r.int()
	b := api.Ballot{Round: round, Replica: int(replica)}
	// An int may have fewer bits than what was read.
	r.must(int64(b.Replica) == replica && acceptor.Check(b))
	return b
}

func (r *noteReader) slot() int64 {
	slot := r.int()
	r.must(isSlot(slot))
	return slot
}

func (r *noteReader) entry() api.Entry {
	form, err := r.Bytes()
	r.must(err == api.OK)
	e, err := record.TakeEntry(form)
	r.must(err == api.OK)
	return e
}
