package record_test

import (
	"slices"
	"testing"

	"orchard/api"
	"orchard/record"
	"orchard/wire"
)

// P4.2: the forms, worked out by hand from the chapter's words: an int n of 0 to 63 is the byte 2 n, -1 the byte 1.

func handOp() api.Op {
	return api.Op{Stamp: api.Stamp{Time: 1, Site: 2}, Kind: 3, Node: 4, Parent: 5, Name: "ab", Value: "c"}
}

func handOpForm() []byte { return []byte{2, 4, 6, 8, 10, 4, 'a', 'b', 0, 2, 'c'} }

func handEpoch() api.Epoch {
	return api.Epoch{Number: 1, States: [api.MaxSites]int{1, 2, 3}, Seals: api.Vector{2: 10}, Sponsor: [api.MaxSites]int{-1, 7, 0, 1, 2, 3, 4, 5}}
}

func handEpochForm() []byte {
	return []byte{2, 2, 4, 6, 0, 0, 0, 0, 0, 0, 0, 20, 0, 0, 0, 0, 0, 1, 14, 0, 2, 4, 6, 8, 10}
}

func handVector() api.Vector { return api.Vector{1, 2, 3, 4, 5, 6, 7, 8} }

func handVectorForm() []byte { return []byte{2, 4, 6, 8, 10, 12, 14, 16} }

func handPart() api.Part { return api.Part{Snap: 1, Index: 2, Many: 3, Data: []byte{255}} }

func handPartForm() []byte { return []byte{2, 4, 6, 2, 255} }

func join(l ...[]byte) []byte { return slices.Concat(l...) }

func TestOpAndEpochByHand(t *testing.T) {
	w := wire.NewWriter()
	wantErr(t, "PutOp", record.PutOp(w, handOp()), api.OK)
	wantBytes(t, "PutOp", w.Out(), handOpForm())
	wantErr(t, "PutEpoch", record.PutEpoch(w, handEpoch()), api.OK)
	wantBytes(t, "PutEpoch", w.Out(), join(handOpForm(), handEpochForm()))
}

func TestEntriesByHand(t *testing.T) {
	cases := []struct {
		e    api.Entry
		want []byte
	}{
		{api.Entry{}, []byte{0}},
		{api.Entry{Kind: api.EnLocal, Session: 8, Request: 9, Op: handOp()}, join([]byte{2, 16, 18}, handOpForm())},
		{api.Entry{Kind: api.EnRemote, Origin: 7, Seq: 6, Ops: []api.Op{handOp(), handOp()}}, join([]byte{4, 14, 12, 4}, handOpForm(), handOpForm())},
		{api.Entry{Kind: api.EnEpoch, Epoch: handEpoch()}, join([]byte{6}, handEpochForm())},
		{api.Entry{Kind: api.EnKnown, Seq: 1, From: 2, Vector: handVector(), Clock: 3}, join([]byte{8, 2, 4}, handVectorForm(), []byte{6})},
		{api.Entry{Kind: api.EnPart, Part: handPart()}, join([]byte{10}, handPartForm())},
		{api.Entry{Kind: api.EnJoin, Site: 3, Sponsor: 4}, []byte{12, 6, 8}},
		{api.Entry{Kind: api.EnLeave, Site: 3}, []byte{14, 6}},
		{api.Entry{Kind: api.EnSealed, Site: 3, Length: 64}, []byte{16, 6, 128, 1}},
	}
	for _, c := range cases {
		wantBytes(t, "Entry", entryBytes(t, c.e), c.want)
		got, err := record.TakeEntry(c.want)
		if !record.SameEntry(got, c.e) || err != api.OK {
			t.Errorf("TakeEntry of %v: %+v, error %d", c.want, got, err)
		}
	}
}

func handMsgs() []struct {
	m    api.Msg
	want []byte
} {
	ballot := api.Ballot{Round: 9, Replica: 4}
	list := []api.Slotted{{Slot: 5, Ballot: api.Ballot{Round: 6, Replica: 1}, Entry: api.Entry{Kind: api.EnLeave, Site: 3}}}
	listForm := []byte{10, 12, 2, 14, 6}
	return []struct {
		m    api.Msg
		want []byte
	}{
		{api.Msg{Kind: api.MsPrepare, Ballot: ballot, Slot: 3}, []byte{18, 8, 6}},
		{api.Msg{Kind: api.MsPromise, Ballot: ballot, Slot: 3}, []byte{18, 8, 6, 0}},
		{api.Msg{Kind: api.MsPromise, Ballot: ballot, Slot: 3, List: append(list, list...)}, join([]byte{18, 8, 6, 4}, listForm, listForm)},
		{api.Msg{Kind: api.MsAccept, Ballot: ballot, List: list}, join([]byte{18, 8, 2}, listForm)},
		{api.Msg{Kind: api.MsAccepted, Ballot: ballot, Slot: 3}, []byte{18, 8, 6}},
		{api.Msg{Kind: api.MsRefuse, Ballot: ballot}, []byte{18, 8}},
		{api.Msg{Kind: api.MsChosen, List: list}, join([]byte{2}, listForm)},
		{api.Msg{Kind: api.MsBeat, Ballot: ballot, Slot: 3}, []byte{18, 8, 6}},
		{api.Msg{Kind: api.MsAsk, Slot: 3}, []byte{6}},
		{api.Msg{Kind: api.MsForward, Entry: list[0].Entry}, []byte{14, 6}},
		{api.Msg{Kind: api.MsForward}, []byte{0}},
		{api.Msg{Kind: api.MsKnown, Number: 1, Vector: handVector(), Clock: 2}, join([]byte{2}, handVectorForm(), []byte{4})},
		{api.Msg{Kind: api.MsPush, Number: 1, Origin: 2, Slot: 3, Ops: []api.Op{handOp()}}, join([]byte{2, 4, 6, 2}, handOpForm())},
		{api.Msg{Kind: api.MsEpoch, Epoch: handEpoch()}, handEpochForm()},
		{api.Msg{Kind: api.MsPart, Part: handPart()}, handPartForm()},
		{api.Msg{Kind: api.MsWant, Number: 1, Vector: handVector()}, join([]byte{2}, handVectorForm())},
		{api.Msg{Kind: api.MsState, Slot: 3, Part: handPart()}, join([]byte{6}, handPartForm())},
	}
}

func TestMsgsByHand(t *testing.T) {
	for _, c := range handMsgs() {
		c.m.From, c.m.To = api.Addr{Group: 1, Replica: 2}, api.Addr{Group: 8, Replica: 4}
		form := join([]byte{byte(2 * c.m.Kind), 2, 4, 16, 8}, c.want)
		want, err := wire.Frame(form)
		wantErr(t, "Frame", err, api.OK)
		wantBytes(t, "Marshal", msgBytes(t, c.m), want)
		got, err := record.Unmarshal(want)
		if !record.SameMsg(got, c.m) || err != api.OK {
			t.Errorf("Unmarshal of %v: %+v, error %d", form, got, err)
		}
	}
}
