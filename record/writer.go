package record

import (
	"orchard/api"
	"orchard/wire"
)

// fieldWriter puts what all forms are made of. Its first error stays, and nothing is put behind it.
type fieldWriter struct {
	to  *wire.Writer
	err api.Errno
}

func (w *fieldWriter) out() ([]byte, api.Errno) {
	if w.err != api.OK {
		return nil, w.err
	}
	return w.to.Out(), api.OK
}

func (w *fieldWriter) int64s(l ...int64) {
	for _, n := range l {
		if w.err == api.OK {
			w.err = w.to.Int(n)
		}
	}
}

func (w *fieldWriter) ints(l ...int) {
	for _, n := range l {
		w.int64s(int64(n))
	}
}

func (w *fieldWriter) texts(l ...string) {
	for _, s := range l {
		if w.err == api.OK {
			w.err = w.to.Text(s)
		}
	}
}

func (w *fieldWriter) data(b []byte) {
	if w.err == api.OK {
		w.err = w.to.Bytes(b)
	}
}

func (w *fieldWriter) op(op api.Op) {
	w.int64s(op.Stamp.Time)
	w.ints(op.Stamp.Site, op.Kind)
	w.int64s(op.Node, op.Parent)
	w.texts(op.Name, op.Key, op.Value)
}

func (w *fieldWriter) ops(l ...api.Op) {
	w.ints(len(l))
	for _, op := range l {
		w.op(op)
	}
}

func (w *fieldWriter) vector(v api.Vector) { w.int64s(v[:]...) }

func (w *fieldWriter) epoch(e api.Epoch) {
	w.int64s(e.Number)
	w.ints(e.States[:]...)
	w.vector(e.Seals)
	w.ints(e.Sponsor[:]...)
}

// partWriter puts parts of snapshots.
type partWriter struct{ fieldWriter }

func (w *partWriter) part(p *api.Part) {
	w.int64s(p.Snap)
	w.ints(p.Index, p.Many)
	w.data(p.Data)
}

// entryWriter puts entries.
type entryWriter struct{ partWriter }

func (w *entryWriter) entry(e *api.Entry) {
	named, _ := entryRow(e.Kind)
	w.ints(e.Kind)
	w.entryFields(e, named[:]...)
}

func (w *entryWriter) entryFields(e *api.Entry, l ...field) {
	for _, f := range l {
		switch f {
		case fieldSession:
			w.int64s(e.Session)
		case fieldRequest:
			w.int64s(e.Request)
		case fieldOp:
			w.op(e.Op)
		case fieldOrigin:
			w.ints(e.Origin)
		case fieldSeq:
			w.int64s(e.Seq)
		case fieldOps:
			w.ops(e.Ops...)
		case fieldEpoch:
			w.epoch(e.Epoch)
		case fieldFrom:
			w.ints(e.From)
		case fieldVector:
			w.vector(e.Vector)
		case fieldClock:
			w.int64s(e.Clock)
		case fieldPart:
			w.part(&e.Part)
		case fieldSite:
			w.ints(e.Site)
		case fieldSponsor:
			w.ints(e.Sponsor)
		case fieldLength:
			w.int64s(e.Length)
		}
	}
}

// msgWriter puts messages.
type msgWriter struct{ entryWriter }

func (w *msgWriter) msg(m *api.Msg) {
	named, _ := msgRow(m.Kind)
	w.ints(m.Kind)
	w.addrs(m.From, m.To)
	w.msgFields(m, named[:]...)
}

func (w *msgWriter) addrs(l ...api.Addr) {
	for _, a := range l {
		w.ints(a.Group, a.Replica)
	}
}

func (w *msgWriter) ballot(b api.Ballot) {
	w.int64s(b.Round)
	w.ints(b.Replica)
}

func (w *msgWriter) list(l ...api.Slotted) {
	w.ints(len(l))
	for i := range l {
		w.int64s(l[i].Slot)
		w.ballot(l[i].Ballot)
		w.entry(&l[i].Entry)
	}
}

func (w *msgWriter) msgFields(m *api.Msg, l ...field) {
	for _, f := range l {
		switch f {
		case fieldBallot:
			w.ballot(m.Ballot)
		case fieldSlot:
			w.int64s(m.Slot)
		case fieldList:
			w.list(m.List...)
		case fieldEntry:
			w.entry(&m.Entry)
		case fieldNumber:
			w.int64s(m.Number)
		case fieldVector:
			w.vector(m.Vector)
		case fieldClock:
			w.int64s(m.Clock)
		case fieldOrigin:
			w.ints(m.Origin)
		case fieldOps:
			w.ops(m.Ops...)
		case fieldEpoch:
			w.epoch(m.Epoch)
		case fieldPart:
			w.part(&m.Part)
		}
	}
}
