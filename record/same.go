package record

import (
	"bytes"
	"slices"

	"orchard/api"
)

// SameEntry tells whether two entries are the same.
func SameEntry(a, b api.Entry) bool {
	return a.Kind == b.Kind &&
		a.Session == b.Session &&
		a.Request == b.Request &&
		a.Op == b.Op &&
		a.Origin == b.Origin &&
		a.Seq == b.Seq &&
		slices.Equal(a.Ops, b.Ops) &&
		a.Epoch == b.Epoch &&
		a.From == b.From &&
		a.Vector == b.Vector &&
		a.Clock == b.Clock &&
		samePart(a.Part, b.Part) &&
		a.Site == b.Site &&
		a.Sponsor == b.Sponsor &&
		a.Length == b.Length
}

func samePart(a, b api.Part) bool {
	return a.Snap == b.Snap && a.Index == b.Index && a.Many == b.Many && bytes.Equal(a.Data, b.Data)
}

func sameSlotted(a, b api.Slotted) bool {
	return a.Slot == b.Slot && a.Ballot == b.Ballot && SameEntry(a.Entry, b.Entry)
}

// SameMsg tells whether two messages are the same.
func SameMsg(a, b api.Msg) bool {
	return a.Kind == b.Kind &&
		a.From == b.From &&
		a.To == b.To &&
		a.Ballot == b.Ballot &&
		a.Slot == b.Slot &&
		slices.EqualFunc(a.List, b.List, sameSlotted) &&
		SameEntry(a.Entry, b.Entry) &&
		a.Number == b.Number &&
		a.Vector == b.Vector &&
		a.Clock == b.Clock &&
		a.Origin == b.Origin &&
		slices.Equal(a.Ops, b.Ops) &&
		a.Epoch == b.Epoch &&
		samePart(a.Part, b.Part)
}

// CloneEntry is an entry in memory of its own.
func CloneEntry(e api.Entry) api.Entry {
	e.Ops = slices.Clone(e.Ops)
	e.Part.Data = bytes.Clone(e.Part.Data)
	return e
}

// CloneMsg is a message in memory of its own.
func CloneMsg(m api.Msg) api.Msg {
	m.List = slices.Clone(m.List)
	for i, s := range m.List {
		m.List[i].Entry = CloneEntry(s.Entry)
	}
	m.Entry = CloneEntry(m.Entry)
	m.Ops = slices.Clone(m.Ops)
	m.Part.Data = bytes.Clone(m.Part.Data)
	return m
}
