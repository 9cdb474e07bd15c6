package proposer

import (
	"cmp"
	"slices"

	"orchard/api"
	"orchard/record"
)

// isBelow is the order of ballots.
func isBelow(a, b api.Ballot) bool {
	return cmp.Or(cmp.Compare(a.Round, b.Round), cmp.Compare(a.Replica, b.Replica)) < 0
}

// Promise counts a replica's promise, with what it has accepted, and tells whether a majority has promised.
func (p *Proposer) Promise(replica int, l ...api.Slotted) (bool, api.Errno) {
	if err := p.judge(replica, l...); err != api.OK {
		return false, err
	}
	wasReady := p.Ready()
	p.promised.add(replica)
	if wasReady {
		return true, api.OK
	}
	p.gather(l...)
	if !p.Ready() {
		return false, api.OK
	}
	p.begin()
	return true, api.OK
}

// judge is what a promise is told ahead of all else.
func (p *Proposer) judge(replica int, l ...api.Slotted) api.Errno {
	switch {
	case !p.isMade():
		return api.ErrMade
	case !p.isReplica(replica) || !p.mayCome(l...):
		return api.ErrArg
	case slices.ContainsFunc(l, p.isFar):
		return api.ErrLong
	case slices.ContainsFunc(l, isRefused):
		return api.ErrField
	case p.promised.has(replica):
		return api.ErrTwice
	}
	return api.OK
}

// mayCome tells whether a replica may have accepted these ahead of its promise, by their slots and ballots.
func (p *Proposer) mayCome(l ...api.Slotted) bool {
	seen := map[int64]struct{}{}
	for _, s := range l {
		if s.Slot < p.from || s.Slot > api.MaxTime || !isBelow(s.Ballot, p.ballot) {
			return false
		}
		seen[s.Slot] = struct{}{}
	}
	return len(seen) == len(l)
}

func (p *Proposer) isFar(s api.Slotted) bool { return s.Slot-p.from > api.MaxGap }

func isRefused(s api.Slotted) bool { return record.CheckEntry(s.Entry) != api.OK }

// gather keeps of each slot what came with the greatest ballot, and of equal ones what came first.
func (p *Proposer) gather(l ...api.Slotted) {
	for _, s := range l {
		if best, there := p.came[s.Slot]; there && !isBelow(best.Ballot, s.Ballot) {
			continue
		}
		s.Entry = record.CloneEntry(s.Entry)
		p.came[s.Slot] = s
	}
}

// begin gives each slot up to the greatest one that came its entry: EnNone, where none came.
func (p *Proposer) begin() {
	for slot := range p.came {
		p.next = max(p.next, slot+1)
	}
	for slot := p.from; slot < p.next; slot++ {
		p.slots[slot] = &held{entry: p.came[slot].Entry}
	}
	p.came = nil
}
