package snap

import (
	"orchard/api"
	"orchard/record"
	"orchard/stamp"
	"orchard/tree"
)

const (
	maxMembers = 1 << 16 // members of a list
	maxErr     = 999     // the greatest number of an error
)

// Check tells whether a state may be.
func Check(s api.Snap) api.Errno {
	if hasNumbers(&s) && hasLengths(&s) && isLog(s.Frontier, s.Log...) && areKept(&s) && areRows(s.Rows...) && areParts(s.Parts...) && isBase(s.Base) {
		return api.OK
	}
	return api.ErrSnap
}

func hasNumbers(s *api.Snap) bool {
	return areSites(s.Site) && areCounts(s.Applied, s.Clock, s.Frontier) && record.CheckEpoch(s.Epoch) == api.OK &&
		areVectors(s.Vector, s.Last, s.Starts, s.Told, s.Clocks, s.Sure) && areVectors(s.Known[:]...)
}

func hasLengths(s *api.Snap) bool {
	for _, l := range s.Kept {
		if !isLength(len(l)) {
			return false
		}
	}
	return isLength(len(s.Base)) && isLength(len(s.Log)) && isLength(len(s.Parts)) && len(s.Rows) <= api.MaxSessions
}

func isLength(n int) bool { return n >= 0 && n <= maxMembers }

func within[T int | int64](least, most T, l ...T) bool {
	for _, n := range l {
		if n < least || n > most {
			return false
		}
	}
	return true
}

func areCounts(l ...int64) bool { return within(0, api.MaxTime, l...) }

func areSites(l ...int) bool { return within(0, api.MaxSites-1, l...) }

func areVectors(l ...api.Vector) bool {
	for _, v := range l {
		if !stamp.CheckVector(v) {
			return false
		}
	}
	return true
}

// rises tells whether each of a list is above the one ahead of it.
func rises[T any](l []T, below func(a, b T) bool) bool {
	for i := 1; i < len(l); i++ {
		if !below(l[i-1], l[i]) {
			return false
		}
	}
	return true
}

// areOps tells whether operations may be, with stamps that rise.
func areOps(l ...api.Op) bool {
	for _, op := range l {
		if stamp.CheckOp(op) != api.OK {
			return false
		}
	}
	return rises(l, func(a, b api.Op) bool { return stamp.Compare(a.Stamp, b.Stamp) < 0 })
}

// isLog asks the first operation alone for its time: no later one's is below it.
func isLog(frontier int64, l ...api.Op) bool {
	return areOps(l...) && (len(l) == 0 || l[0].Stamp.Time > frontier)
}

func areKept(s *api.Snap) bool {
	for site, l := range s.Kept {
		if s.Starts[site]+int64(len(l)) != s.Vector[site] || !isOf(site, l...) || !areOps(l...) {
			return false
		}
	}
	return true
}

// isOf tells whether all operations are of a site: then their times rise where their stamps do.
func isOf(site int, l ...api.Op) bool {
	for _, op := range l {
		if op.Stamp.Site != site {
			return false
		}
	}
	return true
}

func areRows(l ...api.Row) bool {
	for _, x := range l {
		if !within(1, api.MaxTime, x.Session, x.Request) || !isReply(x.Reply) {
			return false
		}
	}
	return rises(l, func(a, b api.Row) bool { return a.Session < b.Session })
}

func isReply(r api.Reply) bool {
	return within(0, maxErr, int(r.Err)) && areCounts(r.Stamp.Time) && areSites(r.Stamp.Site) && within(0, api.MaxNode, r.Node)
}

// areParts asks record by an entry of one part: it has no call for a part alone.
func areParts(l ...api.Part) bool {
	for _, p := range l {
		if record.CheckEntry(api.Entry{Kind: api.EnPart, Part: p}) != api.OK {
			return false
		}
	}
	return true
}

// isBase asks the last node alone for its number: tree.From takes none whose numbers do not rise.
func isBase(l []api.TreeNode) bool {
	if len(l) > 0 && l[len(l)-1].Node > api.MaxNode {
		return false
	}
	_, err := tree.From(l)
	return err == api.OK
}
