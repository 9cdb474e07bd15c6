package exchange

import (
	"slices"

	"orchard/api"
	"orchard/record"
	"orchard/stamp"
)

// Entry is what a message of another group becomes in a site's log, and whether it becomes anything.
func Entry(m api.Msg) (api.Entry, bool) {
	if record.CheckMsg(m) != api.OK {
		return api.Entry{}, false
	}
	// The configuration has no operations, and no vector of them.
	if (m.Kind == api.MsKnown || m.Kind == api.MsPush) && !isSite(m.From.Group) {
		return api.Entry{}, false
	}
	e := record.CloneEntry(entryOf(m))
	return e, e.Kind != api.EnNone
}

// entryOf is what a message becomes, with the message's own lists; the zero entry, if nothing.
func entryOf(m api.Msg) api.Entry {
	switch m.Kind {
	case api.MsKnown:
		return api.Entry{Kind: api.EnKnown, Seq: m.Number, From: m.From.Group, Vector: m.Vector, Clock: m.Clock}
	case api.MsPush:
		return api.Entry{Kind: api.EnRemote, Origin: m.Origin, Seq: m.Slot, Ops: m.Ops}
	case api.MsEpoch:
		return api.Entry{Kind: api.EnEpoch, Epoch: m.Epoch}
	case api.MsPart:
		return api.Entry{Kind: api.EnPart, Part: m.Part}
	}
	return api.Entry{}
}

// Useful tells whether an entry brings a site something.
func Useful(s api.Snap, x api.Entry) bool {
	switch x.Kind {
	case api.EnLocal, api.EnPart:
		return true
	case api.EnRemote:
		return len(counting(s, x.Origin, x.Seq, x.Ops...)) > 0
	case api.EnEpoch:
		return x.Epoch.Number > s.Epoch.Number
	case api.EnKnown:
		return x.Seq == s.Epoch.Number && slices.Contains(Peers(s), x.From) && tellsMore(s, x)
	}
	return false
}

// tellsMore tells whether a site says more of itself than it was known to have.
func tellsMore(s api.Snap, x api.Entry) bool {
	return !stamp.Above(s.Known[x.From], x.Vector) || x.Clock > s.Clocks[x.From]
}
