package replica_test

import (
	"testing"

	"orchard/api"
	"orchard/store"
)

// P10.4: MsAccept and MsAccepted.

func TestItAccepts(t *testing.T) {
	for i := range 9 {
		o := fresh(t, 0, 3)
		b := ballot(2, 2)
		o.step(o.in(2, accept(b, 4, sample(i))), o.out(2, accepted(b, 4)))
		o.wantAccepted(with(4, b, sample(i)))
		o.wantPromised(b)
		o.wantLeader(b)
		o.wantNotChosen(4)
		if a := o.again(); a.s.Promised() != b {
			t.Error("opened again, it has promised", a.s.Promised())
		}
		o.again().wantAccepted(with(4, b, sample(i)))
		// Once more, and another one with a greater ballot.
		o.step(o.in(2, accept(b, 4, sample(i))), o.out(2, accepted(b, 4)))
		o.step(o.in(1, accept(ballot(3, 1), 4, named(7))), o.out(1, accepted(ballot(3, 1), 4)))
		o.wantAccepted(with(4, ballot(3, 1), named(7)))
		o.wantLeader(ballot(3, 1))
	}
}

// TestTheBallotOfTheMessageCounts: not that within its List.
func TestTheBallotOfTheMessageCounts(t *testing.T) {
	for _, inner := range []api.Ballot{{}, ballot(1, 0), ballot(9, 4)} {
		o := fresh(t, 0, 3)
		b := ballot(2, 2)
		m := api.Msg{Kind: api.MsAccept, Ballot: b, List: listOf(with(0, inner, named(1)))}
		o.step(o.in(1, m), o.out(1, accepted(b, 0)))
		o.wantAccepted(with(0, b, named(1)))
		o.wantLeader(b)
	}
}

func TestItDoesNotAccept(t *testing.T) {
	o := laid(t, 0, 5, func(s *store.Store) { s.Prepare(ballot(5, 2), 0) })
	before := files(o.d)
	for _, low := range []api.Ballot{ballot(5, 1), ballot(4, 4), ballot(1, 0)} {
		o.step(o.in(4, accept(low, 0, named(1))), o.out(4, refuse(ballot(5, 2))))
	}
	// What the store refuses otherwise is passed over.
	o.step(o.in(4, accept(ballot(0, 3), 0, named(1))))
	o.step(o.in(4, accept(ballot(6, 3), 0, tooLong())))
	o.wantNoLeader()
	o.wantPromised(ballot(5, 2))
	if files(o.d) != before {
		t.Error("the disk has changed")
	}
	o.step(o.in(4, accept(ballot(5, 2), 0, long())), o.out(4, accepted(ballot(5, 2), 0)))
	o.step(o.in(4, accept(ballot(5, 2), latest, named(1))), o.out(4, accepted(ballot(5, 2), latest)))
}

// TestGivingWayToAnAccept: one that stands or leads, to a greater ballot.
func TestGivingWayToAnAccept(t *testing.T) {
	for _, leads := range []bool{false, true} {
		o := fresh(t, 1, 3)
		var b api.Ballot
		if leads {
			b = o.lead(1)
		} else {
			b = o.stand(1, 0)
		}
		role := o.Role()
		o.step(o.in(0, accept(ballot(1, 0), 0, named(1))), o.out(0, refuse(b)))
		o.step(o.in(0, accept(b, 3, named(1))), o.out(0, accepted(b, 3)))
		o.wantRole(role)
		o.wantLeader(b)
		o.step(o.in(2, accept(ballot(1, 2), 0, named(1))), o.out(2, accepted(ballot(1, 2), 0)))
		o.wantRole(api.RoleFollow)
		o.wantLeader(ballot(1, 2))
		o.step(o.in(0, promise(b, 0)))
		o.wantRole(api.RoleFollow)
		o.wantWait(0, 2)
	}
}

// TestChosenByAMajority: of each number of replicas; who accepts twice counts once, and who comes later tells nothing more.
func TestChosenByAMajority(t *testing.T) {
	for n := 2; n <= 5; n++ {
		for self := range n {
			o := fresh(t, self, n)
			b := o.lead(1)
			o.propose(sample(2), o.all(accept(b, 0, sample(2)))...)
			left := n / 2
			for i := range n {
				if i == self {
					continue
				}
				if left--; left != 0 {
					o.step(o.in(i, accepted(b, 0)))
					o.step(o.in(i, accepted(b, 0)))
					continue
				}
				o.wantNotChosen(0)
				o.step(o.in(i, accepted(b, 0)), o.all(chosen(with(0, b, sample(2))))...)
				o.wantChosen(0, sample(2))
				o.step(o.in(i, accepted(b, 0)))
			}
			o.wantNext(0, sample(2))
			o.wantNoNext()
		}
	}
}

func TestChosenInAnyOrder(t *testing.T) {
	o := filled(t, 4)
	b := ballot(1, 0)
	for _, slot := range []int64{2, 0, 3, 1} {
		o.step(o.in(1, accepted(b, slot)), o.all(chosen(with(slot, b, named(slot+1))))...)
	}
	o.wantUpto(4)
	o.tick(o.all(beat(b, 4))...)
}

// TestAcceptedThatCountsForNothing: for another ballot, a slot without an entry, or to one that does not lead.
func TestAcceptedThatCountsForNothing(t *testing.T) {
	o := filled(t, 1)
	for _, b := range []api.Ballot{ballot(1, 1), ballot(2, 0), ballot(0, 0)} {
		o.step(o.in(1, accepted(b, 0)))
	}
	o.step(o.in(1, accepted(ballot(1, 0), 1)))
	o.step(o.in(1, accepted(ballot(1, 0), latest)))
	o.wantUpto(0)
	o.step(o.in(1, accepted(ballot(1, 0), 0)), o.all(chosen(with(0, ballot(1, 0), named(1))))...)

	f := fresh(t, 0, 3)
	f.step(f.in(1, accepted(ballot(1, 0), 0)))
	b := f.stand(2, 0)
	f.step(f.in(1, accepted(b, 0)))
	f.step(f.in(2, accepted(b, 0)))
	f.wantUpto(0)
}

// TestWhatTheStoreDoesNotChoose: another entry is chosen there already; the store's refusal is passed over, and the others are told what this one has counted.
func TestWhatTheStoreDoesNotChoose(t *testing.T) {
	o := filled(t, 3)
	b := ballot(1, 0)
	o.step(o.in(2, chosen(plain(1, named(77)))))
	o.step(o.in(1, accepted(b, 1)), o.all(chosen(with(1, b, named(2))))...)
	o.wantChosen(1, named(77))
	o.wantRole(api.RoleLead)
}

// TestCheckpointsOfALeader: behind one it has forgotten what is below it, and counts it no more.
func TestCheckpointsOfALeader(t *testing.T) {
	o := filled(t, 4)
	b := ballot(1, 0)
	o.do(o.in(1, accepted(b, 0)))
	o.do(o.in(2, chosen(plain(1, named(2)), plain(2, named(3)))))
	o.checkpoint(2, "two")
	for slot := range int64(3) {
		// 0 and 1 are forgotten, 2 is settled.
		o.step(o.in(2, accepted(b, slot)))
	}
	o.step(o.in(2, accepted(b, 3)), o.all(chosen(with(3, b, named(4))))...)
	o.step(o.in(1, ask(1)), o.cut(1, 2, "two")...)
	o.step(o.in(1, ask(2)), o.out(1, chosen(plain(2, named(3)), plain(3, named(4)))))
}
