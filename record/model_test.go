package record_test

import (
	"encoding/binary"
	"hash/crc32"
	"slices"

	"orchard/api"
)

// The chapter's forms, written once more as plainly as it says them, piece by piece, also of values that may not be.

// What a piece is, and so what is told of a wrong one.
const (
	value  = iota // an int: a wrong one is told when all is read
	early         // a Kind of an entry or a message, or a list's length: a wrong one is told at once
	length        // the length of a text or of bytes: wire tells of a wrong one
	raw           // the bytes of a text, or of a list of bytes
)

type piece struct {
	what int
	b    []byte
}

type pieces []piece

func intForm(n int64) []byte { return binary.AppendVarint(nil, n) }

func (p *pieces) put(what int, l ...int64) {
	for _, n := range l {
		*p = append(*p, piece{what, intForm(n)})
	}
}

func (p *pieces) ints(l ...int) {
	for _, n := range l {
		p.put(value, int64(n))
	}
}

func (p *pieces) text(l ...string) {
	for _, s := range l {
		p.put(length, int64(len(s)))
		*p = append(*p, piece{raw, []byte(s)})
	}
}

func (p *pieces) op(op api.Op) {
	p.put(value, op.Stamp.Time)
	p.ints(op.Stamp.Site, op.Kind)
	p.put(value, op.Node, op.Parent)
	p.text(op.Name, op.Key, op.Value)
}

func (p *pieces) ops(l []api.Op) {
	p.put(early, int64(len(l)))
	for _, op := range l {
		p.op(op)
	}
}

func (p *pieces) epoch(e api.Epoch) {
	p.put(value, e.Number)
	p.ints(e.States[:]...)
	p.put(value, e.Seals[:]...)
	p.ints(e.Sponsor[:]...)
}

func (p *pieces) part(x api.Part) {
	p.put(value, x.Snap)
	p.ints(x.Index, x.Many)
	p.text(string(x.Data))
}

func (p *pieces) ballot(b api.Ballot) {
	p.put(value, b.Round)
	p.ints(b.Replica)
}

func (p *pieces) entry(e api.Entry) {
	p.put(early, int64(e.Kind))
	switch e.Kind {
	case api.EnLocal:
		p.put(value, e.Session, e.Request)
		p.op(e.Op)
	case api.EnRemote:
		p.put(value, int64(e.Origin), e.Seq)
		p.ops(e.Ops)
	case api.EnEpoch:
		p.epoch(e.Epoch)
	case api.EnKnown:
		p.put(value, e.Seq, int64(e.From))
		p.put(value, e.Vector[:]...)
		p.put(value, e.Clock)
	case api.EnPart:
		p.part(e.Part)
	case api.EnJoin:
		p.ints(e.Site, e.Sponsor)
	case api.EnLeave:
		p.ints(e.Site)
	case api.EnSealed:
		p.put(value, int64(e.Site), e.Length)
	}
}

func (p *pieces) list(l []api.Slotted) {
	p.put(early, int64(len(l)))
	for _, s := range l {
		p.put(value, s.Slot)
		p.ballot(s.Ballot)
		p.entry(s.Entry)
	}
}

func (p *pieces) msg(m api.Msg) {
	p.put(early, int64(m.Kind))
	p.ints(m.From.Group, m.From.Replica, m.To.Group, m.To.Replica)
	switch m.Kind {
	case api.MsPrepare, api.MsAccepted, api.MsBeat:
		p.ballot(m.Ballot)
		p.put(value, m.Slot)
	case api.MsPromise:
		p.ballot(m.Ballot)
		p.put(value, m.Slot)
		p.list(m.List)
	case api.MsAccept:
		p.ballot(m.Ballot)
		p.list(m.List)
	case api.MsRefuse:
		p.ballot(m.Ballot)
	case api.MsChosen:
		p.list(m.List)
	case api.MsAsk:
		p.put(value, m.Slot)
	case api.MsForward:
		p.entry(m.Entry)
	case api.MsKnown:
		p.put(value, m.Number)
		p.put(value, m.Vector[:]...)
		p.put(value, m.Clock)
	case api.MsPush:
		p.put(value, m.Number, int64(m.Origin), m.Slot)
		p.ops(m.Ops)
	case api.MsEpoch:
		p.epoch(m.Epoch)
	case api.MsPart:
		p.part(m.Part)
	case api.MsWant:
		p.put(value, m.Number)
		p.put(value, m.Vector[:]...)
	case api.MsState:
		p.put(value, m.Slot)
		p.part(m.Part)
	}
}

func (p pieces) bytes() []byte {
	var b []byte
	for _, x := range p {
		b = append(b, x.b...)
	}
	return b
}

// with is p with other bytes in the place of one piece.
func (p pieces) with(at int, b []byte) pieces {
	c := slices.Clone(p)
	c[at].b = b
	return c
}

func opPieces(op api.Op) pieces {
	var p pieces
	p.op(op)
	return p
}

func epochPieces(e api.Epoch) pieces {
	var p pieces
	p.epoch(e)
	return p
}

func entryPieces(e api.Entry) pieces {
	var p pieces
	p.entry(e)
	return p
}

func msgPieces(m api.Msg) pieces {
	var p pieces
	p.msg(m)
	return p
}

func framed(b []byte) []byte {
	f := append(intForm(int64(len(b))), b...)
	return binary.LittleEndian.AppendUint32(f, crc32.ChecksumIEEE(b))
}

func modelEntry(e api.Entry) []byte { return entryPieces(e).bytes() }

func modelMsg(m api.Msg) []byte { return framed(msgPieces(m).bytes()) }
