package replica

import (
	"orchard/acceptor"
	"orchard/api"
	"orchard/proposer"
	"orchard/record"
)

// The least patience, and how much more each replica has than the one ahead of it, so that seldom two stand at once.
const (
	leastPatience = 4
	morePatience  = 2
)

// Patience is how many ticks a replica waits for a leader, till it stands.
func Patience(self int) int {
	if self < 0 || self >= api.MaxReplicas {
		return 0
	}
	return leastPatience + morePatience*self
}

// Tick lets a tick pass: a leader tells that it lives, the others wait for one.
func (r *Replica) Tick() ([]api.Msg, api.Errno) {
	if !r.isMade() {
		return nil, api.ErrMade
	}
	if r.role == api.RoleLead {
		return r.remind(), api.OK
	}
	r.wait++
	if r.wait != Patience(r.self()) {
		return nil, api.OK
	}
	return r.stand()
}

// remind tells all that it leads, and asks once more for what is not accepted yet.
func (r *Replica) remind() []api.Msg {
	r.settle()
	out := r.beat()
	waiting := r.proposer.Waiting()
	for _, x := range waiting[:min(len(waiting), api.MaxBatch)] {
		for _, replica := range r.proposer.Missing(x.Slot) {
			if replica != r.self() {
				out = append(out, r.to(replica, api.MsAccept, withBallot(r.proposer.Ballot()), withList(x))...)
			}
		}
	}
	return out
}

func (r *Replica) beat() []api.Msg {
	return r.toAll(api.MsBeat, withBallot(r.proposer.Ballot()), withSlot(r.Upto()))
}

// settle counts what was chosen without the proposer's knowing as accepted by all, so that it waits for it no more.
func (r *Replica) settle() {
	for _, x := range r.proposer.Waiting() {
		if x.Slot >= r.Upto() {
			return
		}
		for replica := range r.many() {
			r.proposer.Accepted(replica, x.Slot)
		}
	}
}

// stand asks for promises with a ballot above all that it knows.
func (r *Replica) stand() ([]api.Msg, api.Errno) {
	r.wait = 0
	b := api.Ballot{Round: max(r.heard, r.Promised().Round) + 1, Replica: r.self()}
	if b.Round > api.MaxTime {
		return nil, api.ErrLong
	}
	from := r.Upto()
	accepted, err := r.Prepare(b, from)
	if err != api.OK {
		return nil, err
	}
	p, err := proposer.New(b, from, r.many())
	if err != api.OK {
		return nil, err
	}
	// Its error counts for nothing: then it has not promised itself, and may still lead by what the others promise.
	p.Promise(r.self(), accepted...)
	r.role, r.proposer, r.heard = api.RoleStand, p, b.Round
	r.loseLeader()
	if p.Ready() {
		return r.lead()
	}
	return r.toAll(api.MsPrepare, withBallot(b), withSlot(from)), api.OK
}

// lead asks all for what it has taken over, and tells them that it leads.
func (r *Replica) lead() ([]api.Msg, api.Errno) {
	r.role = api.RoleLead
	r.follow(r.proposer.Ballot())
	r.settle()
	waiting := r.proposer.Waiting()
	if err := r.acceptAll(waiting...); err != api.OK {
		return nil, err
	}
	var out []api.Msg
	for _, x := range waiting {
		out = append(out, r.ask(x)...)
	}
	return append(out, r.beat()...), api.OK
}

// acceptAll accepts here what it asks the others for, first in the store, then in its proposer.
func (r *Replica) acceptAll(l ...api.Slotted) api.Errno {
	// What a store that is not broken refuses is passed over, and counted all the same: no store takes such an entry, so no replica of the group sends it.
	if err := r.heed(r.Accept(r.proposer.Ballot(), l...)); err != api.OK {
		return err
	}
	for _, x := range l {
		if _, err := r.count(r.self(), x.Slot); err != api.OK {
			return err
		}
	}
	return api.OK
}

// count tells its proposer that a replica has accepted a slot's entry, and whether that is chosen by it; then the store has it as chosen.
func (r *Replica) count(replica int, slot int64) (bool, api.Errno) {
	if done, _ := r.proposer.Accepted(replica, slot); !done {
		return false, api.OK
	}
	return true, r.choose(r.choice(slot))
}

// choice is what its proposer has chosen for a slot, with its ballot.
func (r *Replica) choice(slot int64) api.Slotted {
	e, _ := r.proposer.Chosen(slot)
	return api.Slotted{Slot: slot, Ballot: r.proposer.Ballot(), Entry: e}
}

func (r *Replica) choose(l ...api.Slotted) api.Errno { return r.heed(r.Choose(l...)) }

// ask asks all to accept an entry for a slot.
func (r *Replica) ask(x api.Slotted) []api.Msg {
	return r.toAll(api.MsAccept, withBallot(r.proposer.Ballot()), withList(x))
}

// hasBelow tells whether it stands or leads with a ballot below b.
func (r *Replica) hasBelow(b api.Ballot) bool {
	return r.proposer != nil && acceptor.Compare(r.proposer.Ballot(), b) < 0
}

// Propose asks for an entry to be chosen: its leader gives it a slot.
func (r *Replica) Propose(e api.Entry) ([]api.Msg, api.Errno) {
	switch {
	case !r.isMade():
		return nil, api.ErrMade
	case record.CheckEntry(e) != api.OK:
		return nil, api.ErrField
	case r.role == api.RoleLead:
		return r.put(e)
	case !r.known:
		return nil, api.ErrLeader
	}
	return r.to(r.leader.Replica, api.MsForward, withEntry(e)), api.OK
}

// put gives an entry the leader's next slot.
func (r *Replica) put(e api.Entry) ([]api.Msg, api.Errno) {
	switch {
	case len(r.proposer.Waiting()) >= api.MaxOpen:
		return nil, api.ErrFull
	case r.proposer.Next() > api.MaxTime:
		return nil, api.ErrLong
	}
	if err := r.Accept(r.proposer.Ballot(), api.Slotted{Slot: r.proposer.Next(), Entry: e}); err != api.OK {
		return nil, err
	}
	x, err := r.proposer.Put(e)
	if err != api.OK {
		return nil, err
	}
	if _, err := r.count(r.self(), x.Slot); err != api.OK {
		return nil, err
	}
	return r.ask(x), api.OK
}
