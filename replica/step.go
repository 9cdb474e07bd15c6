package replica

import (
	"orchard/acceptor"
	"orchard/api"
	"orchard/record"
)

// Step takes a message of another replica of the group.
func (r *Replica) Step(m api.Msg) ([]api.Msg, api.Errno) {
	if !r.isMade() {
		return nil, api.ErrMade
	}
	if record.CheckMsg(m) != api.OK || !r.isFor(m) {
		return nil, api.ErrMessage
	}
	r.heard = max(r.heard, m.Ballot.Round)
	out, err := r.take(m)
	if err != api.OK {
		return nil, err
	}
	// Another one has led on: what it would put now has a slot that is taken.
	if r.role == api.RoleLead && r.proposer.Next() < r.Upto() {
		r.stepDown()
		r.loseLeader()
	}
	return out, api.OK
}

func (r *Replica) take(m api.Msg) ([]api.Msg, api.Errno) {
	switch m.Kind {
	case api.MsPrepare:
		return r.takePrepare(m)
	case api.MsPromise:
		return r.takePromise(m)
	case api.MsAccept:
		return r.takeAccept(m)
	case api.MsAccepted:
		return r.takeAccepted(m)
	case api.MsRefuse:
		return r.takeRefuse(m)
	case api.MsChosen:
		return r.takeChosen(m)
	case api.MsBeat:
		return r.takeBeat(m)
	case api.MsAsk:
		return r.takeAsk(m)
	case api.MsForward:
		return r.takeForward(m)
	case api.MsState:
		return r.takeState(m)
	}
	// The other Kinds are for groups of others, and have no Ballot of which something could have been heard.
	return nil, api.ErrMessage
}

func (r *Replica) takePrepare(m api.Msg) ([]api.Msg, api.Errno) {
	from := m.From.Replica
	if m.Slot < r.First() {
		return r.sendState(from), api.OK
	}
	l, err := r.Prepare(m.Ballot, m.Slot)
	if err != api.OK {
		return r.refused(from, err)
	}
	r.giveWay(m.Ballot)
	r.wait = 0
	if len(l) > api.MaxList {
		return nil, api.OK
	}
	return r.to(from, api.MsPromise, withBallot(m.Ballot), withSlot(m.Slot), withList(l...)), api.OK
}

// refused is what a replica is told whose ballot the store has not taken.
func (r *Replica) refused(replica int, err api.Errno) ([]api.Msg, api.Errno) {
	if err == api.ErrLow {
		return r.refuse(replica), api.OK
	}
	return nil, r.heed(err)
}

func (r *Replica) refuse(replica int) []api.Msg {
	return r.to(replica, api.MsRefuse, withBallot(r.Promised()))
}

func (r *Replica) takePromise(m api.Msg) ([]api.Msg, api.Errno) {
	if r.proposer == nil || m.Ballot != r.proposer.Ballot() {
		return nil, api.OK
	}
	ready, err := r.proposer.Promise(m.From.Replica, m.List...)
	if !ready || err != api.OK || r.role != api.RoleStand {
		return nil, api.OK
	}
	return r.lead()
}

func (r *Replica) takeAccept(m api.Msg) ([]api.Msg, api.Errno) {
	from, slot := m.From.Replica, m.List[0].Slot
	if slot < r.First() {
		return r.sendState(from), api.OK
	}
	if err := r.Accept(m.Ballot, m.List...); err != api.OK {
		return r.refused(from, err)
	}
	r.giveWay(m.Ballot)
	r.follow(m.Ballot)
	return r.to(from, api.MsAccepted, withBallot(m.Ballot), withSlot(slot)), api.OK
}

func (r *Replica) takeAccepted(m api.Msg) ([]api.Msg, api.Errno) {
	if r.role != api.RoleLead || m.Ballot != r.proposer.Ballot() {
		return nil, api.OK
	}
	done, err := r.count(m.From.Replica, m.Slot)
	if !done || err != api.OK {
		return nil, err
	}
	return r.toAll(api.MsChosen, withList(r.choice(m.Slot))), api.OK
}

func (r *Replica) takeRefuse(m api.Msg) ([]api.Msg, api.Errno) {
	if r.hasBelow(m.Ballot) {
		r.stepDown()
		r.loseLeader()
	}
	return nil, api.OK
}

func (r *Replica) takeChosen(m api.Msg) ([]api.Msg, api.Errno) {
	var l []api.Slotted
	for _, x := range m.List {
		if x.Slot >= r.First() {
			l = append(l, x)
		}
	}
	return nil, r.choose(l...)
}

func (r *Replica) takeBeat(m api.Msg) ([]api.Msg, api.Errno) {
	from := m.From.Replica
	if acceptor.Compare(m.Ballot, r.Promised()) < 0 {
		return r.refuse(from), api.OK
	}
	r.giveWay(m.Ballot)
	r.follow(m.Ballot)
	if m.Slot <= r.Upto() {
		return nil, api.OK
	}
	return r.to(from, api.MsAsk, withSlot(r.Upto())), api.OK
}

func (r *Replica) takeAsk(m api.Msg) ([]api.Msg, api.Errno) {
	from := m.From.Replica
	if m.Slot < r.First() {
		return r.sendState(from), api.OK
	}
	var l []api.Slotted
	for slot, e := range r.All(m.Slot) {
		l = append(l, api.Slotted{Slot: slot, Entry: e})
		if len(l) == api.MaxTell {
			break
		}
	}
	if len(l) == 0 {
		return nil, api.OK
	}
	return r.to(from, api.MsChosen, withList(l...)), api.OK
}

func (r *Replica) takeForward(m api.Msg) ([]api.Msg, api.Errno) {
	if r.role != api.RoleLead {
		return nil, api.OK
	}
	out, err := r.Propose(m.Entry)
	return out, r.heed(err)
}
