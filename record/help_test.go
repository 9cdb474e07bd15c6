package record_test

import (
	"bytes"
	"reflect"
	"strings"
	"testing"

	"orchard/api"
	"orchard/record"
)

// source is a sequence that is the same in each run.
type source uint64

func (s *source) next() uint64 {
	*s = *s*6364136223846793005 + 1442695040888963407
	return uint64(*s >> 33)
}

func (s *source) below(n int) int { return int(s.next() % uint64(n)) }

func wantErr(t *testing.T, what string, got, want api.Errno) {
	t.Helper()
	if got != want {
		t.Errorf("%s: error %d, want %d", what, got, want)
	}
}

func wantBytes(t *testing.T, what string, got, want []byte) {
	t.Helper()
	if !bytes.Equal(got, want) {
		t.Errorf("%s: %v, want %v", what, got[:min(len(got), 40)], want[:min(len(want), 40)])
	}
}

// wantZero: with an error every other result is the zero value.
func wantZero(t *testing.T, what string, v any) {
	t.Helper()
	if !reflect.ValueOf(v).IsZero() {
		t.Errorf("%s: with an error it answers %v", what, v)
	}
}

func wantEntryErr(t *testing.T, what string, b []byte, want api.Errno) {
	t.Helper()
	e, err := record.TakeEntry(b)
	wantErr(t, "TakeEntry: "+what, err, want)
	wantZero(t, "TakeEntry: "+what, e)
}

func wantMsgErr(t *testing.T, what string, b []byte, want api.Errno) {
	t.Helper()
	m, err := record.Unmarshal(b)
	wantErr(t, "Unmarshal: "+what, err, want)
	wantZero(t, "Unmarshal: "+what, m)
}

func entryBytes(t *testing.T, e api.Entry) []byte {
	t.Helper()
	b, err := record.Entry(e)
	if err != api.OK {
		t.Fatalf("Entry of %+v: error %d", e, err)
	}
	return b
}

func msgBytes(t *testing.T, m api.Msg) []byte {
	t.Helper()
	b, err := record.Marshal(m)
	if err != api.OK {
		t.Fatalf("Marshal of a message of Kind %d: error %d", m.Kind, err)
	}
	return b
}

func text(n int) string { return strings.Repeat("x", n) }

func sampleOp() api.Op {
	return api.Op{Stamp: api.Stamp{Time: 70, Site: 3}, Kind: api.OpMove, Node: 1 << 20, Parent: 16, Name: "na\x00me", Key: "k", Value: "\xff"}
}

func sampleOps(n int) []api.Op {
	var l []api.Op
	for i := range n {
		l = append(l, api.Op{Stamp: api.Stamp{Time: int64(i)}, Kind: 1 + i%3, Node: int64(i)})
	}
	return l
}

func sampleVector() api.Vector { return api.Vector{1, 0, 200, 3, 4, 5, 1 << 30, 7} }

func sampleEpoch() api.Epoch {
	return api.Epoch{
		Number:  9,
		States:  [api.MaxSites]int{1, 2, 3, 0, 1, 0, 1, 1},
		Seals:   api.Vector{0, 0, 500},
		Sponsor: [api.MaxSites]int{-1, -1, 0, -1, 7, -1, 2, 1},
	}
}

func samplePart() api.Part { return api.Part{Snap: 6, Index: 2, Many: 5, Data: []byte{0, 128, 255}} }

// sampleEntries are an entry of each Kind, at its Kind's place.
func sampleEntries() []api.Entry {
	return []api.Entry{
		{},
		{Kind: api.EnLocal, Session: 8, Request: 100, Op: sampleOp()},
		{Kind: api.EnRemote, Origin: 2, Seq: 77, Ops: []api.Op{sampleOp(), {Kind: api.OpAttr}}},
		{Kind: api.EnEpoch, Epoch: sampleEpoch()},
		{Kind: api.EnKnown, Seq: 4, From: 5, Vector: sampleVector(), Clock: 90},
		{Kind: api.EnPart, Part: samplePart()},
		{Kind: api.EnJoin, Site: 6, Sponsor: 1},
		{Kind: api.EnLeave, Site: 3},
		{Kind: api.EnSealed, Site: 2, Length: 500},
	}
}

func sampleList() []api.Slotted {
	var l []api.Slotted
	for i, e := range sampleEntries() {
		l = append(l, api.Slotted{Slot: int64(60 + i), Ballot: api.Ballot{Round: int64(i), Replica: i % 5}, Entry: e})
	}
	return l
}

// sampleMsgs are a message of each Kind, at its Kind's place; there is none of Kind 0.
func sampleMsgs() []api.Msg {
	ballot := api.Ballot{Round: 12, Replica: 4}
	l := []api.Msg{
		{},
		{Ballot: ballot, Slot: 7},
		{Ballot: ballot, Slot: 7, List: sampleList()},
		{Ballot: ballot, List: sampleList()[1:2]},
		{Ballot: ballot, Slot: 64},
		{Ballot: ballot},
		{List: sampleList()},
		{Ballot: ballot, Slot: 1},
		{Slot: 8192},
		{Entry: sampleEntries()[api.EnLocal]},
		{Number: 3, Vector: sampleVector(), Clock: 80},
		{Number: 3, Origin: 7, Slot: 40, Ops: []api.Op{sampleOp(), {Kind: api.OpMake}}},
		{Epoch: sampleEpoch()},
		{Part: samplePart()},
		{Number: 2, Vector: sampleVector()},
		{Slot: 9, Part: samplePart()},
	}
	for kind := range l {
		l[kind].Kind = kind
		l[kind].From, l[kind].To = api.Addr{Group: 8, Replica: 1}, api.Addr{Group: 3, Replica: 4}
	}
	return l
}

func goodMsgs() []api.Msg { return sampleMsgs()[1:] }

// laden is an entry that has something in every field.
func laden() api.Entry {
	return api.Entry{
		Kind: 1, Session: 2, Request: 3, Op: sampleOp(), Origin: 4, Seq: 5, Ops: sampleOps(3), Epoch: sampleEpoch(), From: 6,
		Vector: sampleVector(), Clock: 7, Part: samplePart(), Site: 1, Sponsor: 2, Length: 10,
	}
}

// ladenMsg is a message that has something in every field.
func ladenMsg() api.Msg {
	return api.Msg{
		Kind: 1, From: api.Addr{Group: 1, Replica: 2}, To: api.Addr{Group: 3, Replica: 4}, Ballot: api.Ballot{Round: 5, Replica: 1},
		Slot: 6, List: []api.Slotted{{Slot: 1, Ballot: api.Ballot{Round: 2, Replica: 3}, Entry: laden()}, {Slot: 2}}, Entry: laden(),
		Number: 7, Vector: sampleVector(), Clock: 8, Origin: 1, Ops: sampleOps(2), Epoch: sampleEpoch(), Part: samplePart(),
	}
}
