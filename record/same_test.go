package record_test

import (
	"reflect"
	"testing"

	"orchard/api"
	"orchard/record"
)

// P4.1: SameEntry, SameMsg, CloneEntry, CloneMsg, of all values, whether they may be or not.

func wantSameEntry(t *testing.T, what string, a, b api.Entry, want bool) {
	t.Helper()
	if record.SameEntry(a, b) != want || record.SameEntry(b, a) != want {
		t.Error("SameEntry is not", want, "of", what)
	}
}

func wantSameMsg(t *testing.T, what string, a, b api.Msg, want bool) {
	t.Helper()
	if record.SameMsg(a, b) != want || record.SameMsg(b, a) != want {
		t.Error("SameMsg is not", want, "of", what)
	}
}

func TestSameEntry(t *testing.T) {
	wantSameEntry(t, "an entry with all fields", laden(), laden(), true)
	wantSameEntry(t, "it and the zero entry", laden(), api.Entry{}, false)
	other := laden()
	other.Kind = 2
	wantSameEntry(t, "two with unlike Kinds", laden(), other, false)
	fields := append(entryFields(), opsFields()...)
	for _, f := range fields {
		for _, x := range f.leaves {
			other := laden()
			// No leaf of laden has this number, or this length.
			x.set(&other, 20)
			wantSameEntry(t, "two with unlike "+x.name, laden(), other, false)
		}
	}
	wantSameEntry(t, "nil and empty lists", api.Entry{}, api.Entry{Ops: []api.Op{}, Part: api.Part{Data: []byte{}}}, true)
}

func TestSameEntryOfLists(t *testing.T) {
	cases := []struct {
		what   string
		change func(e *api.Entry)
	}{
		{"a shorter Ops", func(e *api.Entry) { e.Ops = e.Ops[:2] }},
		{"no Ops", func(e *api.Entry) { e.Ops = nil }},
		{"another order of Ops", func(e *api.Entry) { e.Ops[0], e.Ops[1] = e.Ops[1], e.Ops[0] }},
		{"a shorter Data", func(e *api.Entry) { e.Part.Data = e.Part.Data[:2] }},
		{"no Data", func(e *api.Entry) { e.Part.Data = nil }},
		{"another last byte", func(e *api.Entry) { e.Part.Data[2]++ }},
	}
	for _, c := range cases {
		other := laden()
		c.change(&other)
		wantSameEntry(t, c.what, laden(), other, false)
		m := ladenMsg()
		m.Entry = other
		wantSameMsg(t, "Entry: "+c.what, ladenMsg(), m, false)
		m = ladenMsg()
		m.List[0].Entry = other
		wantSameMsg(t, "List: "+c.what, ladenMsg(), m, false)
	}
}

func TestSameMsg(t *testing.T) {
	wantSameMsg(t, "a message with all fields", ladenMsg(), ladenMsg(), true)
	wantSameMsg(t, "it and the zero message", ladenMsg(), api.Msg{}, false)
	other := ladenMsg()
	other.Kind = 2
	wantSameMsg(t, "two with unlike Kinds", ladenMsg(), other, false)
	fields := append(msgFields(), listFields(api.MsPromise)...)
	for _, f := range append(fields, pushFields()...) {
		for _, x := range f.leaves {
			other := ladenMsg()
			x.set(&other, 20)
			wantSameMsg(t, "two with unlike "+x.name, ladenMsg(), other, false)
		}
	}
	other = ladenMsg()
	other.List = other.List[:1]
	wantSameMsg(t, "a shorter List", ladenMsg(), other, false)
	other.List = nil
	wantSameMsg(t, "no List", ladenMsg(), other, false)
	empty := api.Msg{List: []api.Slotted{}, Ops: []api.Op{}, Part: api.Part{Data: []byte{}}, Entry: api.Entry{Ops: []api.Op{}}}
	wantSameMsg(t, "nil and empty lists", api.Msg{}, empty, true)
}

// spoil writes to all memory that an entry has beside itself.
func spoil(e *api.Entry) {
	for i := range e.Ops {
		e.Ops[i] = api.Op{Name: "spoilt"}
	}
	for i := range e.Part.Data {
		e.Part.Data[i] ^= 255
	}
}

func spoilMsg(m *api.Msg) {
	for i := range m.List {
		spoil(&m.List[i].Entry)
		m.List[i] = api.Slotted{Slot: -9}
	}
	spoil(&m.Entry)
	spoil(&api.Entry{Ops: m.Ops, Part: m.Part})
}

func TestCloneEntry(t *testing.T) {
	for _, e := range append(sampleEntries(), laden(), api.Entry{Kind: -5}) {
		c := record.CloneEntry(e)
		if !reflect.DeepEqual(c, e) {
			t.Errorf("CloneEntry of %+v: %+v", e, c)
		}
	}
	e := laden()
	c := record.CloneEntry(e)
	spoil(&c)
	wantSameEntry(t, "an entry whose clone was written to", e, laden(), true)
	e = laden()
	c = record.CloneEntry(e)
	spoil(&e)
	wantSameEntry(t, "a clone of what was written to", c, laden(), true)
}

func TestCloneMsg(t *testing.T) {
	for _, m := range append(sampleMsgs(), ladenMsg(), api.Msg{Kind: -5}) {
		c := record.CloneMsg(m)
		if !reflect.DeepEqual(c, m) {
			t.Errorf("CloneMsg of %+v: %+v", m, c)
		}
	}
	m := ladenMsg()
	c := record.CloneMsg(m)
	spoilMsg(&c)
	wantSameMsg(t, "a message whose clone was written to", m, ladenMsg(), true)
	m = ladenMsg()
	c = record.CloneMsg(m)
	spoilMsg(&m)
	wantSameMsg(t, "a clone of what was written to", c, ladenMsg(), true)
}

// TestCloneHasNoRoomInCommon: what is appended to a clone does not come to stand in the other's list.
func TestCloneHasNoRoomInCommon(t *testing.T) {
	whole := laden()
	e := whole
	e.Ops, e.Part.Data = whole.Ops[:1], whole.Part.Data[:1]
	c := record.CloneEntry(e)
	c.Ops, c.Part.Data = append(c.Ops, api.Op{Kind: 9}), append(c.Part.Data, 77)
	wantSameEntry(t, "an entry behind whose clone something was put", whole, laden(), true)
	m := ladenMsg()
	short := m
	short.List = m.List[:1]
	clone := record.CloneMsg(short)
	clone.List = append(clone.List, api.Slotted{Slot: 44})
	wantSameMsg(t, "a message behind whose clone something was put", m, ladenMsg(), true)
}
