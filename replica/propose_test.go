package replica_test

import (
	"testing"

	"orchard/api"
	"orchard/store"
)

// P10.3, and MsForward of P10.4.

func TestALeaderProposes(t *testing.T) {
	for n := 1; n <= 5; n++ {
		for self := range n {
			o := fresh(t, self, n)
			var b api.Ballot
			if n == 1 {
				o.quiet(4)
				b = ballot(1, 0)
			} else {
				b = o.lead(1)
			}
			for slot := range int64(9) {
				e := sample(int(slot))
				o.propose(e, o.all(accept(b, slot, e))...)
				o.wantAccepted(with(slot, b, e))
				if n == 1 {
					o.wantNext(slot, e)
				} else {
					o.wantNotChosen(slot)
				}
			}
		}
	}
}

func TestAFollowerForwards(t *testing.T) {
	for i := range 9 {
		o := fresh(t, 1, 3)
		o.refusedPropose(sample(i), api.ErrLeader)
		o.do(o.in(2, beat(ballot(4, 2), 0)))
		o.propose(sample(i), o.out(2, forward(sample(i))))
		// The leader is who the ballot says, not who has sent it.
		o.do(o.in(2, beat(ballot(5, 0), 0)))
		o.propose(sample(i), o.out(0, forward(sample(i))))
		o.do(o.in(0, accept(ballot(6, 2), 0, named(1))))
		o.propose(sample(i), o.out(2, forward(sample(i))))
		// Nothing of it is kept.
		if _, is := o.s.Accepted(1); is || o.Upto() != 0 {
			t.Error("what is forwarded is kept")
		}
	}
}

// TestOneThatStandsKnowsNoLeader, till one is told of that is not above it: then it forwards to it, though it stands.
func TestOneThatStandsKnowsNoLeader(t *testing.T) {
	o := fresh(t, 0, 3)
	o.stand(1, 0)
	o.refusedPropose(named(1), api.ErrLeader)
	o.do(o.in(1, beat(ballot(1, 0), 0)))
	o.wantRole(api.RoleStand)
	o.propose(named(1), o.out(0, forward(named(1))))
}

// TestItForwardsToItself: one that led, and has given way to a ballot whose leader has not spoken yet, knows itself as the leader still.
func TestItForwardsToItself(t *testing.T) {
	o := fresh(t, 0, 3)
	b := o.lead(1)
	o.step(o.in(1, prepare(ballot(2, 1), 0)), o.out(1, promise(ballot(2, 1), 0)))
	o.wantRole(api.RoleFollow)
	o.wantLeader(b)
	o.propose(named(1), o.out(0, forward(named(1))))
}

// TestEntriesThatMayNotBe: told ahead of all else, whoever is asked.
func TestEntriesThatMayNotBe(t *testing.T) {
	unled := fresh(t, 0, 3)
	follows := fresh(t, 0, 3)
	follows.do(follows.in(1, beat(ballot(1, 1), 0)))
	stands := fresh(t, 0, 3)
	stands.stand(1, 0)
	leads := fresh(t, 0, 3)
	leads.lead(1)
	full := filled(t, 64)
	broken := fresh(t, 0, 3)
	broken.lead(1)
	broken.breakStore()
	for _, o := range []*one{unled, follows, stands, leads, full, broken} {
		before, there := o.face(), files(o.d)
		for _, e := range noEntries() {
			o.refusedPropose(e, api.ErrField)
		}
		if o.face() != before || files(o.d) != there {
			t.Errorf("%s has changed to %s", before, o.face())
		}
	}
}

// filled is a leader of three with so many waiting entries, from slot 0 on; its ballot is 1.0.
func filled(t *testing.T, many int64) *one {
	t.Helper()
	o := fresh(t, 0, 3)
	b := o.lead(1)
	for slot := range many {
		o.propose(named(slot+1), o.all(accept(b, slot, named(slot+1)))...)
	}
	return o
}

func TestMaxOpen(t *testing.T) {
	o := filled(t, 63)
	b := ballot(1, 0)
	o.propose(named(64), o.all(accept(b, 63, named(64)))...)
	before := files(o.d)
	o.refusedPropose(named(65), api.ErrFull)
	o.step(o.in(1, forward(named(65))))
	if files(o.d) != before {
		t.Error("the disk has changed")
	}
	// As soon as one of them is chosen, wherever it stands, there is room for one.
	o.do(o.in(1, accepted(b, 40)))
	o.propose(named(65), o.all(accept(b, 64, named(65)))...)
	o.refusedPropose(named(66), api.ErrFull)
	// What others have told counts only when it is settled, by a tick.
	o.do(o.in(1, chosen(plain(0, named(1)))))
	o.refusedPropose(named(66), api.ErrFull)
	o.Tick()
	o.propose(named(66), o.all(accept(b, 65, named(66)))...)
	o.refusedPropose(named(67), api.ErrFull)
}

// TestTheLastSlot: at MaxTime an entry may be put, and none behind it.
func TestTheLastSlot(t *testing.T) {
	o := laid(t, 0, 3, func(s *store.Store) { s.Install(latest-1, nil) })
	b := o.lead(1)
	o.propose(named(1), o.all(accept(b, latest-1, named(1)))...)
	o.propose(named(2), o.all(accept(b, latest, named(2)))...)
	before := files(o.d)
	o.refusedPropose(named(3), api.ErrLong)
	o.step(o.in(2, forward(named(3))))
	if files(o.d) != before {
		t.Error("the disk has changed")
	}
	o.refusedPropose(noEntries()[1], api.ErrField)
	o.do(o.in(2, accepted(b, latest)))
	o.do(o.in(2, accepted(b, latest-1)))
	o.wantUpto(latest + 1)
	o.wantRole(api.RoleLead)
}

// TestFullAtTheLastSlot: ErrFull is told ahead of ErrLong.
func TestFullAtTheLastSlot(t *testing.T) {
	o := laid(t, 0, 3, func(s *store.Store) { s.Install(latest-63, nil) })
	b := o.lead(1)
	for i := range int64(64) {
		slot := latest - 63 + i
		o.propose(named(i+1), o.all(accept(b, slot, named(i+1)))...)
	}
	o.refusedPropose(named(65), api.ErrFull)
	o.do(o.in(1, accepted(b, latest)))
	o.refusedPropose(named(65), api.ErrLong)
	o.breakStore()
	o.refusedPropose(named(65), api.ErrLong)
}

// TestEntriesThatNoStoreTakes: its error is the answer, and the slot is free still.
func TestEntriesThatNoStoreTakes(t *testing.T) {
	o := fresh(t, 0, 3)
	b := o.lead(1)
	before := files(o.d)
	o.refusedPropose(tooLong(), api.ErrArg)
	o.step(o.in(1, forward(tooLong())))
	if files(o.d) != before {
		t.Error("the disk has changed")
	}
	o.tick(o.all(beat(b, 0))...)
	o.propose(long(), o.all(accept(b, 0, long()))...)
	// A follower forwards it: it may be.
	f := fresh(t, 0, 3)
	f.do(f.in(1, beat(ballot(1, 1), 0)))
	f.propose(tooLong(), f.out(1, forward(tooLong())))
}

// TestTheStoreHasPromisedMore: behind its back; then the store's ErrLow is the answer.
func TestTheStoreHasPromisedMore(t *testing.T) {
	o := fresh(t, 0, 3)
	b := o.lead(1)
	if _, err := o.s.Prepare(ballot(2, 1), 0); err != api.OK {
		t.Fatal("Prepare", err)
	}
	o.refusedPropose(named(1), api.ErrLow)
	o.step(o.in(1, forward(named(1))))
	o.tick(o.all(beat(b, 0))...)
}

func TestALeaderIsForwarded(t *testing.T) {
	for i := range 9 {
		o := fresh(t, 1, 3)
		b := o.lead(1)
		o.step(o.in(2, forward(sample(i))), o.all(accept(b, 0, sample(i)))...)
		o.step(o.in(0, forward(sample(i))), o.all(accept(b, 1, sample(i)))...)
		o.wantAccepted(with(1, b, sample(i)))
	}
}

// TestOthersAreForwarded: who does not lead passes it over, though it knows a leader.
func TestOthersAreForwarded(t *testing.T) {
	o := fresh(t, 1, 3)
	o.step(o.in(2, forward(named(1))))
	o.do(o.in(2, beat(ballot(1, 2), 0)))
	o.step(o.in(0, forward(named(1))))
	o.stand(2, 0)
	o.step(o.in(0, forward(named(1))))
	if _, is := o.s.Accepted(0); is {
		t.Error("what was forwarded is accepted")
	}
}

func TestOneAloneProposesWhatIsChosen(t *testing.T) {
	o := fresh(t, 0, 1)
	o.refusedPropose(named(1), api.ErrLeader)
	o.quiet(4)
	for i := range int64(200) { // none of them waits
		o.propose(named(i + 1))
		o.wantUpto(i + 1)
	}
	a := o.again()
	a.quiet(4)
	for i := range int64(200) {
		a.wantNext(i, named(i+1))
	}
	a.wantNoNext()
}
