package acceptor

import "orchard/api"

// inOrder tells whether no ballot is below the one ahead of it: by Round, then Replica.
func inOrder(l ...api.Ballot) bool {
	for i := 1; i < len(l); i++ {
		a, b := l[i-1], l[i]
		if a.Round > b.Round || a.Round == b.Round && a.Replica > b.Replica {
			return false
		}
	}
	return true
}

// Compare is -1, 0 or 1: a is below b, the same, above it.
func Compare(a, b api.Ballot) int {
	switch {
	case !inOrder(b, a):
		return -1
	case !inOrder(a, b):
		return 1
	}
	return 0
}

// Check tells whether a ballot may be.
func Check(b api.Ballot) bool {
	return b.Round >= 1 && b.Round <= api.MaxTime && b.Replica >= 0 && b.Replica < api.MaxReplicas
}

func isSlot(slot int64) bool { return slot >= 0 && slot <= api.MaxTime }
