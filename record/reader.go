package record

import (
	"orchard/api"
	"orchard/wire"
)

// fieldReader takes what all forms are made of. Its first error stays, and nothing is taken behind it.
type fieldReader struct {
	from *wire.Reader
	err  api.Errno
}

func (r *fieldReader) end() {
	if r.err == api.OK {
		r.err = r.from.End()
	}
}

func (r *fieldReader) int64s(l ...*int64) {
	for _, p := range l {
		if r.err == api.OK {
			*p, r.err = r.from.Int()
		}
	}
}

func (r *fieldReader) ints(l ...*int) {
	for _, p := range l {
		var n int64
		r.int64s(&n)
		*p = int(n)
	}
}

func (r *fieldReader) texts(l ...*string) {
	for _, p := range l {
		if r.err == api.OK {
			*p, r.err = r.from.Text()
		}
	}
}

func (r *fieldReader) data(p *[]byte) {
	if r.err == api.OK {
		*p, r.err = r.from.Bytes()
	}
}

// refuse is for what is told at once: behind it nobody knows what would stand there.
func (r *fieldReader) refuse(bad bool) {
	if r.err == api.OK && bad {
		r.err = api.ErrField
	}
}

// length takes the length of a list: 0 with an error, so that who goes by it takes nothing more.
func (r *fieldReader) length() int {
	var n int
	r.ints(&n)
	r.refuse(!within(0, api.MaxList, n))
	if r.err != api.OK {
		return 0
	}
	return n
}

func (r *fieldReader) op() api.Op {
	var op api.Op
	r.int64s(&op.Stamp.Time)
	r.ints(&op.Stamp.Site, &op.Kind)
	r.int64s(&op.Node, &op.Parent)
	r.texts(&op.Name, &op.Key, &op.Value)
	return op
}

func (r *fieldReader) ops() []api.Op {
	// The list grows with what is read: a length alone is no reason to make room.
	var l []api.Op
	for range r.length() {
		l = append(l, r.op())
		if r.err != api.OK {
			break
		}
	}
	return l
}

func (r *fieldReader) vector() api.Vector {
	var v api.Vector
	for i := range v {
		r.int64s(&v[i])
	}
	return v
}

func (r *fieldReader) eight() [api.MaxSites]int {
	var l [api.MaxSites]int
	for i := range l {
		r.ints(&l[i])
	}
	return l
}

func (r *fieldReader) epoch() api.Epoch {
	var e api.Epoch
	r.int64s(&e.Number)
	e.States = r.eight()
	e.Seals = r.vector()
	e.Sponsor = r.eight()
	return e
}

// partReader takes parts of snapshots.
type partReader struct{ fieldReader }

func (r *partReader) part() api.Part {
	var p api.Part
	r.int64s(&p.Snap)
	r.ints(&p.Index, &p.Many)
	r.data(&p.Data)
	return p
}

// entryReader takes entries.
type entryReader struct{ partReader }

func (r *entryReader) entry() api.Entry {
	var e api.Entry
	r.ints(&e.Kind)
	named, ok := entryRow(e.Kind)
	r.refuse(!ok)
	r.entryFields(&e, named[:]...)
	return e
}

func (r *entryReader) entryFields(e *api.Entry, l ...field) {
	for _, f := range l {
		switch f {
		case fieldSession:
			r.int64s(&e.Session)
		case fieldRequest:
			r.int64s(&e.Request)
		case fieldOp:
			e.Op = r.op()
		case fieldOrigin:
			r.ints(&e.Origin)
		case fieldSeq:
			r.int64s(&e.Seq)
		case fieldOps:
			e.Ops = r.ops()
		case fieldEpoch:
			e.Epoch = r.epoch()
		case fieldFrom:
			r.ints(&e.From)
		case fieldVector:
			e.Vector = r.vector()
		case fieldClock:
			r.int64s(&e.Clock)
		case fieldPart:
			e.Part = r.part()
		case fieldSite:
			r.ints(&e.Site)
		case fieldSponsor:
			r.ints(&e.Sponsor)
		case fieldLength:
			r.int64s(&e.Length)
		}
	}
}

// msgReader takes messages.
type msgReader struct{ entryReader }

func (r *msgReader) msg() api.Msg {
	var m api.Msg
	r.ints(&m.Kind)
	named, ok := msgRow(m.Kind)
	r.refuse(!ok)
	r.addrs(&m.From, &m.To)
	r.msgFields(&m, named[:]...)
	return m
}

func (r *msgReader) addrs(l ...*api.Addr) {
	for _, a := range l {
		r.ints(&a.Group, &a.Replica)
	}
}

func (r *msgReader) ballot() api.Ballot {
	var b api.Ballot
	r.int64s(&b.Round)
	r.ints(&b.Replica)
	return b
}

func (r *msgReader) list() []api.Slotted {
	var l []api.Slotted
	for range r.length() {
		var s api.Slotted
		r.int64s(&s.Slot)
		s.Ballot = r.ballot()
		s.Entry = r.entry()
		l = append(l, s)
		if r.err != api.OK {
			break
		}
	}
	return l
}

func (r *msgReader) msgFields(m *api.Msg, l ...field) {
	for _, f := range l {
		switch f {
		case fieldBallot:
			m.Ballot = r.ballot()
		case fieldSlot:
			r.int64s(&m.Slot)
		case fieldList:
			m.List = r.list()
		case fieldEntry:
			m.Entry = r.entry()
		case fieldNumber:
			r.int64s(&m.Number)
		case fieldVector:
			m.Vector = r.vector()
		case fieldClock:
			r.int64s(&m.Clock)
		case fieldOrigin:
			r.ints(&m.Origin)
		case fieldOps:
			m.Ops = r.ops()
		case fieldEpoch:
			m.Epoch = r.epoch()
		case fieldPart:
			m.Part = r.part()
		}
	}
}
