package record_test

import (
	"math"
	"testing"

	"orchard/api"
	"orchard/record"
	"orchard/wire"
)

// P4.1: which values may be; P4.2 and P4.3 of those at the edges: what may not be is neither written nor read.

func wanted(ok bool) api.Errno {
	if ok {
		return api.OK
	}
	return api.ErrField
}

func wantOp(t *testing.T, what string, op api.Op, ok bool) {
	t.Helper()
	form := opPieces(op).bytes()
	wantErr(t, "CheckOp: "+what, record.CheckOp(op), wanted(ok))
	w := wire.NewWriter()
	wantErr(t, "PutOp: "+what, record.PutOp(w, op), wanted(ok))
	r := wire.NewReader(form)
	got, err := record.TakeOp(r)
	wantErr(t, "TakeOp: "+what, err, wanted(ok))
	if !ok {
		wantZero(t, "TakeOp: "+what, got)
		if w.Len() != 0 || r.Left() != len(form) {
			t.Errorf("%s: put %d, left %d of %d", what, w.Len(), r.Left(), len(form))
		}
		return
	}
	wantBytes(t, what, w.Out(), form)
	if got != op || r.Left() != 0 {
		t.Errorf("TakeOp: %s: %+v, left %d", what, got, r.Left())
	}
}

func TestOps(t *testing.T) {
	for _, x := range opLeaves() {
		for _, e := range x.edges {
			op := sampleOp()
			x.set(&op, e.n)
			wantOp(t, x.name, op, e.ok)
		}
	}
	wantOp(t, "the zero operation", api.Op{}, false)
	wantOp(t, "one with a Kind alone", api.Op{Kind: api.OpMake}, true)
	// An operation has all its fields, whatever its Kind is.
	for kind := api.OpMake; kind <= api.OpAttr; kind++ {
		op := sampleOp()
		op.Kind = kind
		wantOp(t, "all fields", op, true)
	}
	longest := api.Op{Stamp: api.Stamp{Time: api.MaxTime, Site: 7}, Kind: 3, Node: api.MaxNode, Parent: api.MaxNode, Name: text(255), Key: text(255), Value: text(255)}
	wantOp(t, "the longest one", longest, true)
}

func wantEpoch(t *testing.T, what string, e api.Epoch, ok bool) {
	t.Helper()
	form := epochPieces(e).bytes()
	wantErr(t, "CheckEpoch: "+what, record.CheckEpoch(e), wanted(ok))
	w := wire.NewWriter()
	wantErr(t, "PutEpoch: "+what, record.PutEpoch(w, e), wanted(ok))
	r := wire.NewReader(form)
	got, err := record.TakeEpoch(r)
	wantErr(t, "TakeEpoch: "+what, err, wanted(ok))
	if !ok {
		wantZero(t, "TakeEpoch: "+what, got)
		if w.Len() != 0 || r.Left() != len(form) {
			t.Errorf("%s: put %d, left %d of %d", what, w.Len(), r.Left(), len(form))
		}
		return
	}
	wantBytes(t, what, w.Out(), form)
	if got != e || r.Left() != 0 {
		t.Errorf("TakeEpoch: %s: %+v, left %d", what, got, r.Left())
	}
}

func TestEpochs(t *testing.T) {
	for _, x := range epochLeaves() {
		for _, edge := range x.edges {
			e := sampleEpoch()
			x.set(&e, edge.n)
			wantEpoch(t, x.name, e, edge.ok)
		}
	}
	wantEpoch(t, "the zero configuration", api.Epoch{}, true)
	// What no script comes to may be all the same: a seal of a site that is no member, a sponsor of itself.
	wantEpoch(t, "an odd one", api.Epoch{Seals: api.Vector{7: 9}, Sponsor: [api.MaxSites]int{7: 7}}, true)
}

func wantEntry(t *testing.T, c edgeCase[api.Entry]) {
	t.Helper()
	wantErr(t, "CheckEntry: "+c.name, record.CheckEntry(c.v), wanted(c.ok))
	b, err := record.Entry(c.v)
	wantErr(t, "Entry: "+c.name, err, wanted(c.ok))
	if c.ok {
		wantBytes(t, "Entry: "+c.name, b, modelEntry(c.v))
		got, err := record.TakeEntry(modelEntry(c.v))
		wantErr(t, "TakeEntry: "+c.name, err, api.OK)
		if !record.SameEntry(got, c.v) {
			t.Errorf("TakeEntry: %s: %+v", c.name, got)
		}
		return
	}
	if len(b) != 0 {
		t.Error("Entry:", c.name, b)
	}
	if c.named {
		wantEntryErr(t, c.name, modelEntry(c.v), api.ErrField)
	}
}

func TestEntries(t *testing.T) {
	for _, c := range entryCases() {
		wantEntry(t, c)
	}
}

func wantMsg(t *testing.T, c edgeCase[api.Msg]) {
	t.Helper()
	wantErr(t, "CheckMsg: "+c.name, record.CheckMsg(c.v), wanted(c.ok))
	b, err := record.Marshal(c.v)
	wantErr(t, "Marshal: "+c.name, err, wanted(c.ok))
	if c.ok {
		wantBytes(t, "Marshal: "+c.name, b, modelMsg(c.v))
		got, err := record.Unmarshal(modelMsg(c.v))
		wantErr(t, "Unmarshal: "+c.name, err, api.OK)
		if !record.SameMsg(got, c.v) {
			t.Errorf("Unmarshal: %s: %+v", c.name, got)
		}
		return
	}
	if len(b) != 0 {
		t.Error("Marshal:", c.name, b)
	}
	if c.named {
		wantMsgErr(t, c.name, modelMsg(c.v), api.ErrField)
	}
}

func TestMsgs(t *testing.T) {
	for _, c := range msgCases() {
		wantMsg(t, c)
	}
}

func TestMsgsThatCarryEntries(t *testing.T) {
	for _, c := range entryCases() {
		for _, m := range carried(c.v) {
			wantMsg(t, edgeCase[api.Msg]{"carried, " + c.name, m, c.ok, c.named})
		}
	}
}

func TestLengthsOfLists(t *testing.T) {
	const most = api.MaxList
	cases := []struct {
		kind    int
		lengths []edge
	}{
		{api.MsPromise, []edge{{0, true}, {1, true}, {2, true}, {most, true}, {most + 1, false}}},
		{api.MsAccept, []edge{{0, false}, {1, true}, {2, false}, {most, false}, {most + 1, false}}},
		{api.MsChosen, []edge{{0, false}, {1, true}, {2, true}, {most, true}, {most + 1, false}}},
	}
	for _, c := range cases {
		for _, e := range c.lengths {
			m := sampleMsgs()[c.kind]
			m.List = make([]api.Slotted, e.n)
			wantMsg(t, edgeCase[api.Msg]{"a List", m, e.ok, true})
		}
	}
}

func wantMsgField(t *testing.T, what string, m api.Msg, ok bool) {
	t.Helper()
	wantMsg(t, edgeCase[api.Msg]{what, m, ok, false})
}

// TestFieldsThatAreNotNamed: of lists, and of entries within messages; of all else the edges tell it.
func TestFieldsThatAreNotNamed(t *testing.T) {
	lists := []int{api.MsPromise, api.MsAccept, api.MsChosen}
	for _, m := range goodMsgs() {
		isList := m.Kind == lists[0] || m.Kind == lists[1] || m.Kind == lists[2]
		if !isList {
			m.List = make([]api.Slotted, 1)
			wantMsgField(t, "a List that is not named", m, false)
			m.List = []api.Slotted{}
			wantMsgField(t, "an empty List", m, true)
		}
		if m.Kind == api.MsForward {
			continue
		}
		for _, e := range sampleEntries() {
			m.Entry = e
			wantMsgField(t, "an Entry that is not named", m, e.Kind == api.EnNone)
		}
		m.Entry = api.Entry{Ops: []api.Op{}, Part: api.Part{Data: []byte{}}}
		wantMsgField(t, "an Entry with empty lists", m, true)
		m.Entry = api.Entry{Length: 1}
		wantMsgField(t, "an Entry with a number", m, false)
	}
}

func TestKindsThatAreNone(t *testing.T) {
	for _, kind := range []int{math.MinInt, -1, api.EnSealed + 1, 100, 1 << 32, math.MaxInt} {
		e := api.Entry{Kind: kind}
		wantEntry(t, edgeCase[api.Entry]{"a Kind that is none", e, false, true})
		for _, m := range carried(e) {
			wantMsg(t, edgeCase[api.Msg]{"an entry of a Kind that is none", m, false, true})
		}
	}
	for _, kind := range []int{math.MinInt, -1, 0, api.MsState + 1, 100, 1 << 32, math.MaxInt} {
		wantMsg(t, edgeCase[api.Msg]{"a Kind that is none", api.Msg{Kind: kind}, false, true})
	}
}

// TestEmptyLists: nil and empty lists are the same (R4), where they are named and where they are not.
func TestEmptyLists(t *testing.T) {
	for _, e := range sampleEntries() {
		if e.Kind != api.EnRemote {
			e.Ops = []api.Op{}
		}
		if e.Kind != api.EnPart {
			e.Part.Data = []byte{}
		}
		wantEntry(t, edgeCase[api.Entry]{"empty lists", e, true, true})
	}
	for _, data := range [][]byte{nil, {}} {
		part := api.Part{Many: 1, Data: data}
		wantEntry(t, edgeCase[api.Entry]{"an empty part", api.Entry{Kind: api.EnPart, Part: part}, true, true})
		wantMsg(t, edgeCase[api.Msg]{"an empty part", api.Msg{Kind: api.MsState, Part: part}, true, true})
	}
	for _, ops := range [][]api.Op{nil, {}} {
		wantEntry(t, edgeCase[api.Entry]{"no operation", api.Entry{Kind: api.EnRemote, Ops: ops}, false, true})
		wantMsg(t, edgeCase[api.Msg]{"no operation", api.Msg{Kind: api.MsPush, Ops: ops}, false, true})
	}
	for _, list := range [][]api.Slotted{nil, {}} {
		wantMsg(t, edgeCase[api.Msg]{"an empty List", api.Msg{Kind: api.MsPromise, List: list}, true, true})
		wantMsg(t, edgeCase[api.Msg]{"an empty List", api.Msg{Kind: api.MsChosen, List: list}, false, true})
	}
}
