package record_test

import (
	"bytes"
	"slices"
	"testing"

	"orchard/api"
	"orchard/record"
	"orchard/wire"
)

// P4.4: there and back; P4.5: no two alike; P4.6: a turned bit.

func (s *source) op() api.Op {
	kinds, node := 1+s.below(3), int64(s.next())<<19
	return api.Op{Stamp: api.Stamp{Time: int64(s.next()) << 8, Site: s.below(8)}, Kind: kinds, Node: node, Parent: int64(s.below(100)), Name: text(s.below(70)), Value: string(s.bytes(s.below(5)))}
}

func (s *source) bytes(n int) []byte {
	b := make([]byte, n)
	for i := range b {
		b[i] = byte(s.next())
	}
	return b
}

func (s *source) ops() []api.Op {
	var l []api.Op
	for range 1 + s.below(5) {
		l = append(l, s.op())
	}
	return l
}

func (s *source) vector() api.Vector {
	var v api.Vector
	for i := range v {
		v[i] = int64(s.next()) >> s.below(31)
	}
	return v
}

// entry is a sample with some of its fields anew.
func (s *source) entry() api.Entry {
	e := sampleEntries()[s.below(9)]
	switch e.Kind {
	case api.EnLocal:
		e.Session, e.Op = int64(1+s.below(1000)), s.op()
	case api.EnRemote:
		e.Seq, e.Ops = int64(s.next()), s.ops()
	case api.EnEpoch:
		e.Epoch.Seals, e.Epoch.Sponsor[s.below(8)] = s.vector(), s.below(9)-1
	case api.EnKnown:
		e.Vector, e.From = s.vector(), s.below(8)
	case api.EnPart:
		e.Part.Data = s.bytes(s.below(200))
	case api.EnJoin:
		e.Site, e.Sponsor = s.below(8), s.below(8)
	case api.EnSealed:
		e.Length = int64(s.next())
	}
	return e
}

func (s *source) msg() api.Msg {
	m := sampleMsgs()[1+s.below(15)]
	m.From.Group, m.To.Replica = s.below(9), s.below(5)
	switch m.Kind {
	case api.MsPromise, api.MsAccept, api.MsChosen:
		for i := range m.List {
			m.List[i].Slot, m.List[i].Entry = int64(s.next()), s.entry()
		}
	case api.MsForward:
		m.Entry = s.entry()
	case api.MsKnown, api.MsWant:
		m.Vector = s.vector()
	case api.MsPush:
		m.Ops = s.ops()
	}
	return m
}

func wantEntryThereAndBack(t *testing.T, e api.Entry) {
	t.Helper()
	got, err := record.TakeEntry(entryBytes(t, e))
	if err != api.OK || !record.SameEntry(got, e) {
		t.Fatalf("written %+v, read %+v, error %d", e, got, err)
	}
}

func wantMsgThereAndBack(t *testing.T, m api.Msg) {
	t.Helper()
	got, err := record.Unmarshal(msgBytes(t, m))
	if err != api.OK || !record.SameMsg(got, m) {
		t.Fatalf("written %+v, read %+v, error %d", m, got, err)
	}
}

func TestWrittenIsRead(t *testing.T) {
	s := source(5)
	for range 3000 {
		wantEntryThereAndBack(t, s.entry())
		wantMsgThereAndBack(t, s.msg())
	}
	for _, c := range entryCases() {
		if c.ok {
			wantEntryThereAndBack(t, c.v)
		}
	}
	for _, c := range msgCases() {
		if c.ok {
			wantMsgThereAndBack(t, c.v)
		}
	}
}

// wantWrittenAgain: what is read of any bytes, in each way, is written as just these bytes; else nothing is answered. It tells whether they were an entry's.
func wantWrittenAgain(t *testing.T, b []byte) bool {
	t.Helper()
	e, err := record.TakeEntry(b)
	if err == api.OK {
		wantErr(t, "CheckEntry of what was read", record.CheckEntry(e), api.OK)
		wantBytes(t, "an entry, read and written", entryBytes(t, e), b)
	} else {
		wantZero(t, "TakeEntry", e)
	}
	wantMsgWrittenAgain(t, b)
	wantMsgWrittenAgain(t, framed(b))
	wantTakenAgain(t, b)
	return err == api.OK
}

func wantMsgWrittenAgain(t *testing.T, b []byte) {
	t.Helper()
	m, err := record.Unmarshal(b)
	if err != api.OK {
		wantZero(t, "Unmarshal", m)
		return
	}
	wantErr(t, "CheckMsg of what was read", record.CheckMsg(m), api.OK)
	wantBytes(t, "a message, read and written", msgBytes(t, m), b)
}

func wantTakenAgain(t *testing.T, b []byte) {
	t.Helper()
	r, w := wire.NewReader(b), wire.NewWriter()
	if op, err := record.TakeOp(r); err == api.OK {
		wantErr(t, "PutOp", record.PutOp(w, op), api.OK)
	}
	wantBytes(t, "an operation, read and written", w.Out(), b[:len(b)-r.Left()])
	r, w = wire.NewReader(b), wire.NewWriter()
	if e, err := record.TakeEpoch(r); err == api.OK {
		wantErr(t, "PutEpoch", record.PutEpoch(w, e), api.OK)
	}
	wantBytes(t, "a configuration, read and written", w.Out(), b[:len(b)-r.Left()])
}

func TestReadIsWritten(t *testing.T) {
	s := source(7)
	read := 0
	for range 20000 {
		b := entryPieces(s.entry()).bytes()
		if s.below(2) == 0 {
			b = msgPieces(s.msg()).bytes()
		}
		for range s.below(3) {
			b[s.below(len(b))] = byte(s.next() >> s.below(31))
		}
		if wantWrittenAgain(t, b) {
			read++
		}
	}
	if read < 1000 {
		t.Error("of all these bytes only so many were an entry's:", read)
	}
	for i := range 1 << 16 {
		wantWrittenAgain(t, []byte{byte(i), byte(i >> 8)})
	}
}

func TestNoTwoAlike(t *testing.T) {
	entries, msgs := map[string]api.Entry{}, map[string]api.Msg{}
	for _, c := range entryCases() {
		if !c.ok {
			continue
		}
		form := string(entryBytes(t, c.v))
		if was, ok := entries[form]; ok && !record.SameEntry(was, c.v) {
			t.Errorf("one form of %+v and %+v", was, c.v)
		}
		entries[form] = c.v
	}
	for _, c := range msgCases() {
		if !c.ok {
			continue
		}
		form := string(msgBytes(t, c.v))
		if was, ok := msgs[form]; ok && !record.SameMsg(was, c.v) {
			t.Errorf("one form of %+v and %+v", was, c.v)
		}
		msgs[form] = c.v
	}
	// Lists and texts whose bytes, without their lengths, would be the same.
	a, b := handOp(), handOp()
	a.Name, a.Key = "ab", "c"
	b.Name, b.Key = "a", "bc"
	one := api.Entry{Kind: api.EnRemote, Ops: []api.Op{a}}
	other := api.Entry{Kind: api.EnRemote, Ops: []api.Op{b}}
	if bytes.Equal(entryBytes(t, one), entryBytes(t, other)) {
		t.Error("one form of two operations")
	}
}

func wantTurned(t *testing.T, b []byte, bits func(yield func(int) bool)) {
	t.Helper()
	for i := range bits {
		b[i/8] ^= 1 << (i % 8)
		m, err := record.Unmarshal(b)
		if err == api.OK {
			t.Fatalf("a message of %d bytes with the bit %d turned is read", len(b), i)
		}
		wantZero(t, "Unmarshal", m)
		b[i/8] ^= 1 << (i % 8)
	}
}

func all(n int) func(yield func(int) bool) {
	return func(yield func(int) bool) {
		for i := range n {
			if !yield(i) {
				return
			}
		}
	}
}

func TestTurnedBits(t *testing.T) {
	for _, m := range goodMsgs() {
		b := msgBytes(t, m)
		wantTurned(t, b, all(8*len(b)))
	}
	// Of a long message some bits: its length has three bytes, and many ends that a shorter frame could have.
	b := msgBytes(t, api.Msg{Kind: api.MsPart, Part: api.Part{Many: 1, Data: make([]byte, api.MaxData)}})
	wantTurned(t, b, all(64))
	wantTurned(t, b, slices.Values([]int{8 * 1000, 8*len(b) - 33, 8*len(b) - 32, 8*len(b) - 1}))
}

// TestTurnedLength: where a frame's length is turned so that a whole shorter frame stands there, what is behind it is ErrMore; a longer one ends too early.
func TestTurnedLength(t *testing.T) {
	short := framed(nil)
	wantMsgErr(t, "a shorter frame", join(short, []byte{9}), api.ErrMore)
	b := msgBytes(t, sampleMsgs()[api.MsAsk])
	b[0] += 2
	wantMsgErr(t, "a longer frame", b, api.ErrEnds)
}

func FuzzReadIsWritten(f *testing.F) {
	for _, e := range sampleEntries() {
		f.Add(modelEntry(e))
	}
	for _, m := range goodMsgs() {
		f.Add(msgPieces(m).bytes())
	}
	f.Fuzz(func(t *testing.T, b []byte) {
		if len(b) < api.MaxBytes {
			wantWrittenAgain(t, b)
		}
	})
}
