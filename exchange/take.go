package exchange

import (
	"slices"

	"orchard/api"
	"orchard/stamp"
)

// Take are those of a site's operations that count, of ops with the numbers seq, seq + 1, ..
func Take(s api.Snap, origin int, seq int64, ops ...api.Op) []api.Op {
	return slices.Clone(counting(s, origin, seq, ops...))
}

// counting is the piece of ops that counts: from the next number on, up to the first one that does not.
func counting(s api.Snap, origin int, seq int64, ops ...api.Op) []api.Op {
	if !isSite(origin) || origin == s.Site || s.Epoch.States[origin] == api.SiteNone {
		return nil
	}
	next := s.Vector[origin]
	if seq < 0 || seq > next {
		return nil
	}
	ops = ops[min(next-seq, int64(len(ops))):]
	end := endOf(s.Epoch, origin)
	// A time above that of the one ahead is above the frontier, too, since the first one's is.
	last := max(s.Last[origin], s.Frontier)
	for i, op := range ops {
		// The first number may be far above the end, where adding would wrap round: the loop is left there.
		if next+int64(i) >= end || stamp.CheckOp(op) != api.OK || op.Stamp.Site != origin || op.Stamp.Time <= last {
			return ops[:i]
		}
		last = op.Stamp.Time
	}
	return ops
}

// endOf is the number from which on a site has no operations: its seal, or that behind the last one that may be.
func endOf(e api.Epoch, site int) int64 {
	if e.States[site] == api.SiteRetired {
		return min(api.MaxTime, e.Seals[site])
	}
	return api.MaxTime
}
