package record

import "orchard/api"

// noSponsor is the sponsor of a site that was there from the beginning.
const noSponsor = -1

func within[T int | int64](least, most T, l ...T) bool {
	for _, n := range l {
		if n < least || n > most {
			return false
		}
	}
	return true
}

func areCounts(l ...int64) bool { return within(0, api.MaxTime, l...) }

func areSites(l ...int) bool { return within(0, api.MaxSites-1, l...) }

func areReplicas(l ...int) bool { return within(0, api.MaxReplicas-1, l...) }

func areTexts(l ...string) bool {
	for _, s := range l {
		if len(s) > api.MaxText {
			return false
		}
	}
	return true
}

func areOps(l ...api.Op) bool {
	if !within(1, api.MaxList, len(l)) {
		return false
	}
	for _, op := range l {
		if CheckOp(op) != api.OK {
			return false
		}
	}
	return true
}

func areAddrs(l ...api.Addr) bool {
	for _, a := range l {
		if !within(0, api.MaxGroups-1, a.Group) || !areReplicas(a.Replica) {
			return false
		}
	}
	return true
}

func isVector(v api.Vector) bool { return areCounts(v[:]...) }

func isBallot(b api.Ballot) bool { return areCounts(b.Round) && areReplicas(b.Replica) }

func isPart(p api.Part) bool {
	return areCounts(p.Snap) && within(1, api.MaxList, p.Many) && within(0, p.Many-1, p.Index) && len(p.Data) <= api.MaxData
}

// isList tells whether l may be the List of a message of that Kind.
func isList(kind int, l []api.Slotted) bool {
	least, most := 0, api.MaxList
	switch kind {
	case api.MsAccept:
		least, most = 1, 1
	case api.MsChosen:
		least = 1
	}
	if !within(least, most, len(l)) {
		return false
	}
	for i := range l {
		if !areCounts(l[i].Slot) || !isBallot(l[i].Ballot) || CheckEntry(l[i].Entry) != api.OK {
			return false
		}
	}
	return true
}

func told(mayBe bool) api.Errno {
	if mayBe {
		return api.OK
	}
	return api.ErrField
}

// CheckOp tells whether an operation may be.
func CheckOp(op api.Op) api.Errno {
	return told(areCounts(op.Stamp.Time) && areSites(op.Stamp.Site) &&
		within(api.OpMake, api.OpAttr, op.Kind) && within(0, api.MaxNode, op.Node, op.Parent) &&
		areTexts(op.Name, op.Key, op.Value))
}

// CheckEpoch tells whether a configuration may be.
func CheckEpoch(e api.Epoch) api.Errno {
	return told(areCounts(e.Number) && within(api.SiteNone, api.SiteRetired, e.States[:]...) &&
		isVector(e.Seals) && within(noSponsor, api.MaxSites-1, e.Sponsor[:]...))
}

// CheckEntry tells whether an entry may be.
func CheckEntry(e api.Entry) api.Errno {
	named, ok := entryRow(e.Kind)
	for _, f := range named {
		ok = ok && cutEntryField(&e, f)
	}
	// What is named was cut out of this copy: the rest must be zero.
	e.Kind = 0
	return told(ok && SameEntry(e, api.Entry{}))
}

// cut makes a field zero, and is what it was.
func cut[T any](p *T) T {
	var zero T
	was := *p
	*p = zero
	return was
}

// cutEntryField cuts a field out of e, and tells whether it may be.
func cutEntryField(e *api.Entry, f field) bool {
	switch f {
	case fieldSession:
		return within(1, api.MaxTime, cut(&e.Session))
	case fieldRequest:
		return within(1, api.MaxTime, cut(&e.Request))
	case fieldOp:
		return CheckOp(cut(&e.Op)) == api.OK
	case fieldOrigin:
		return areSites(cut(&e.Origin))
	case fieldSeq:
		return areCounts(cut(&e.Seq))
	case fieldOps:
		return areOps(cut(&e.Ops)...)
	case fieldEpoch:
		return CheckEpoch(cut(&e.Epoch)) == api.OK
	case fieldFrom:
		return areSites(cut(&e.From))
	case fieldVector:
		return isVector(cut(&e.Vector))
	case fieldClock:
		return areCounts(cut(&e.Clock))
	case fieldPart:
		return isPart(cut(&e.Part))
	case fieldSite:
		return areSites(cut(&e.Site))
	case fieldSponsor:
		return areSites(cut(&e.Sponsor))
	case fieldLength:
		return areCounts(cut(&e.Length))
	}
	return true
}

// CheckMsg tells whether a message may be.
func CheckMsg(m api.Msg) api.Errno {
	named, ok := msgRow(m.Kind)
	ok = ok && areAddrs(m.From, m.To)
	for _, f := range named {
		ok = ok && cutMsgField(&m, f)
	}
	// As in CheckEntry: the rest must be zero.
	m.Kind, m.From, m.To = 0, api.Addr{}, api.Addr{}
	return told(ok && SameMsg(m, api.Msg{}))
}

// cutMsgField cuts a field out of m, and tells whether it may be.
func cutMsgField(m *api.Msg, f field) bool {
	switch f {
	case fieldBallot:
		return isBallot(cut(&m.Ballot))
	case fieldSlot:
		return areCounts(cut(&m.Slot))
	case fieldList:
		return isList(m.Kind, cut(&m.List))
	case fieldEntry:
		return CheckEntry(cut(&m.Entry)) == api.OK
	case fieldNumber:
		return areCounts(cut(&m.Number))
	case fieldVector:
		return isVector(cut(&m.Vector))
	case fieldClock:
		return areCounts(cut(&m.Clock))
	case fieldOrigin:
		return areSites(cut(&m.Origin))
	case fieldOps:
		return areOps(cut(&m.Ops)...)
	case fieldEpoch:
		return CheckEpoch(cut(&m.Epoch)) == api.OK
	case fieldPart:
		return isPart(cut(&m.Part))
	}
	return true
}
