package replica

import (
	"bytes"

	"orchard/api"
	"orchard/record"
)

// place is where a replica stands: its group, its own number, how many there are.
type place struct{ conf api.Conf }

func isConf(c api.Conf) bool {
	return c.Group >= 0 && c.Group < api.MaxGroups && c.N >= 1 && c.N <= api.MaxReplicas && c.Self >= 0 && c.Self < c.N
}

func (p place) self() int { return p.conf.Self }

// many is how many replicas the group has.
func (p place) many() int { return p.conf.N }

func (p place) addr(replica int) api.Addr { return api.Addr{Group: p.conf.Group, Replica: replica} }

// isFor tells whether a message comes from another replica of the group to this one.
func (p place) isFor(m api.Msg) bool {
	from := m.From.Replica
	return m.To == p.addr(p.self()) && m.From == p.addr(from) && from != p.self() && from < p.many()
}

// to is a message to one replica.
func (p place) to(replica, kind int, fields ...field) []api.Msg {
	m := api.Msg{Kind: kind, From: p.addr(p.self()), To: p.addr(replica)}
	for _, set := range fields {
		set(&m)
	}
	return []api.Msg{m}
}

// toAll is the same message to each of the others.
func (p place) toAll(kind int, fields ...field) []api.Msg {
	var l []api.Msg
	for replica := range p.many() {
		if replica != p.self() {
			l = append(l, p.to(replica, kind, fields...)...)
		}
	}
	return l
}

// field sets a field of a message: in memory of its own, as often as it is asked to.
type field func(m *api.Msg)

func withBallot(b api.Ballot) field { return func(m *api.Msg) { m.Ballot = b } }

func withSlot(slot int64) field { return func(m *api.Msg) { m.Slot = slot } }

func withEntry(e api.Entry) field {
	return func(m *api.Msg) { m.Entry = record.CloneEntry(e) }
}

func withPart(part api.Part) field {
	return func(m *api.Msg) {
		m.Part = part
		m.Part.Data = bytes.Clone(part.Data)
	}
}

func withList(l ...api.Slotted) field {
	return func(m *api.Msg) {
		for _, x := range l {
			x.Entry = record.CloneEntry(x.Entry)
			m.List = append(m.List, x)
		}
	}
}
