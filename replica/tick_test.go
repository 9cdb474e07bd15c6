package replica_test

import (
	"testing"

	"orchard/api"
	"orchard/store"
)

// P10.2: ticks of those that do not lead, and how they stand.

func TestItStandsByItsPatience(t *testing.T) {
	for n := 2; n <= 5; n++ {
		for self := range n {
			o := fresh(t, self, n)
			for round := int64(1); round <= 3; round++ {
				o.quiet(patience(self) - 1)
				b := ballot(round, self)
				o.tick(o.all(prepare(b, 0))...)
				o.wantRole(api.RoleStand)
				o.wantNoLeader()
				o.wantPromised(b)
			}
		}
	}
}

// TestWhatEndsAWait: one below its Patience, a message comes; with wait 0 it begins anew.
func TestWhatEndsAWait(t *testing.T) {
	b := ballot(3, 1)
	for _, m := range []api.Msg{prepare(b, 0), accept(b, 0, named(1)), beat(b, 0), prepare(b, 7)} {
		o := fresh(t, 0, 3)
		o.quiet(3)
		o.do(o.in(1, m))
		o.wantWait(0, 4)
	}
	for _, m := range []api.Msg{promise(b, 0), accepted(b, 0), refuse(b), chosen(plain(0, named(1))), ask(0), forward(named(1)), state(3, 0, 2, "x"), state(3, 0, 1, "x")} {
		o := fresh(t, 0, 3)
		o.quiet(3)
		o.do(o.in(1, m))
		o.wantWait(3, m.Ballot.Round+1)
	}
}

// TestWhatDoesNotEndAWait: messages that are refused.
func TestWhatDoesNotEndAWait(t *testing.T) {
	low := ballot(3, 1)
	for _, m := range []api.Msg{prepare(low, 0), accept(low, 0, named(1)), beat(low, 0)} {
		o := laid(t, 0, 3, func(s *store.Store) { s.Prepare(ballot(3, 2), 0) })
		o.quiet(2)
		o.step(o.in(1, m), o.out(1, refuse(ballot(3, 2))))
		o.wantWait(2, 4)
	}
	// Ballots that may be in a message, but are taken by no store.
	for _, m := range []api.Msg{prepare(ballot(0, 1), 0), accept(ballot(0, 1), 0, named(1))} {
		o := fresh(t, 0, 3)
		o.quiet(2)
		o.step(o.in(1, m))
		o.wantNoLeader()
		o.wantWait(2, 1)
	}
}

// TestRoundsThatItHasHeardOf: by each Kind with a Ballot, whatever comes of the message; and by no entry's ballot.
func TestRoundsThatItHasHeardOf(t *testing.T) {
	b := ballot(41, 2)
	for _, m := range []api.Msg{prepare(b, 0), promise(b, 0), accept(b, 0, named(1)), accepted(b, 0), refuse(b), beat(b, 0)} {
		o := fresh(t, 0, 3)
		o.do(o.in(1, m))
		o.wantWait(0, 42)
		// A lesser one changes nothing of it.
		m.Ballot = ballot(7, 2)
		o.do(o.in(1, m))
		o.wantWait(0, 43)
	}
	inner := with(0, ballot(90, 4), named(1))
	for _, m := range []api.Msg{promise(b, 0, inner), {Kind: api.MsAccept, Ballot: b, List: listOf(inner)}} {
		o := fresh(t, 0, 3)
		o.do(o.in(1, m))
		o.wantWait(0, 42)
	}
	o := fresh(t, 0, 3)
	o.do(o.in(1, chosen(inner)))
	o.wantWait(0, 1)
}

// TestRoundsHeardOfAtCheckpoints: also where a checkpoint is the answer.
func TestRoundsHeardOfAtCheckpoints(t *testing.T) {
	for _, m := range []api.Msg{prepare(ballot(9, 1), 4), accept(ballot(9, 1), 4, named(1))} {
		o := laid(t, 0, 3, func(s *store.Store) { s.Install(5, nil) })
		o.step(o.in(1, m), o.out(1, state(5, 0, 1, "")))
		o.wantPromised(api.Ballot{})
		o.wantWait(0, 10)
	}
}

// TestItStandsAboveWhatItPromised: or above what it has heard of, if that is more.
func TestItStandsAboveWhatItPromised(t *testing.T) {
	for heard := int64(3); heard <= 7; heard++ {
		o := laid(t, 0, 3, func(s *store.Store) { s.Prepare(ballot(5, 4), 0) })
		o.do(o.in(1, refuse(ballot(heard, 1))))
		o.stand(max(heard, 5)+1, 0)
	}
}

// TestItStandsFromUptoOn: with what it has accepted from there on, and nothing else.
func TestItStandsFromUptoOn(t *testing.T) {
	o := laid(t, 1, 3, func(s *store.Store) {
		s.Accept(ballot(1, 0), run(0, 6, api.Ballot{})...)
		s.Choose(run(0, 4, api.Ballot{})...)
	})
	b := o.stand(2, 4)
	var want []api.Msg
	for _, x := range run(4, 6, b) {
		want = append(want, o.all(accept(b, x.Slot, x.Entry))...)
	}
	o.step(o.in(0, promise(b, 4)), append(want, o.all(beat(b, 4))...)...)
}

// TestTheLastRound: the round MaxTime may be, one more may not.
func TestTheLastRound(t *testing.T) {
	o := fresh(t, 0, 3)
	o.do(o.in(1, refuse(ballot(latest-1, 1))))
	o.stand(latest, 0)
	// From now on there is no round more; it stands still with that one, and waits anew each time.
	for range 3 {
		o.quiet(3)
		before := files(o.d)
		o.refusedTick(api.ErrLong)
		o.wantRole(api.RoleStand)
		if files(o.d) != before {
			t.Error("its disk has changed")
		}
	}
	b := ballot(latest, 0)
	o.step(o.in(2, promise(b, 0)), o.all(beat(b, 0))...)
	o.wantRole(api.RoleLead)
}

func TestTheLastRoundIsHeardOfOrPromised(t *testing.T) {
	heard := fresh(t, 0, 3)
	heard.do(heard.in(1, promise(ballot(latest, 1), 0)))
	promised := laid(t, 0, 3, func(s *store.Store) { s.Prepare(ballot(latest, 1), 0) })
	known := fresh(t, 0, 3)
	known.do(known.in(1, beat(ballot(latest, 1), 0)))
	for _, o := range []*one{heard, promised, known} {
		leader, is := o.Leader()
		for range 2 {
			o.quiet(3)
			o.refusedTick(api.ErrLong)
		}
		o.wantRole(api.RoleFollow)
		if got, still := o.Leader(); got != leader || still != is {
			t.Errorf("the leader was %v, %v, and is %v, %v", leader, is, got, still)
		}
	}
}

// TestItCanNotPrepare: any error of the store is the answer, and it waits anew; nothing else changes.
func TestItCanNotPrepare(t *testing.T) {
	o := fresh(t, 0, 3)
	o.do(o.in(1, beat(ballot(2, 1), 0)))
	o.quiet(3)
	o.breakStore()
	for range 2 {
		o.refusedTick(api.ErrBroken)
		o.wantRole(api.RoleFollow)
		o.wantLeader(ballot(2, 1))
		o.quiet(3)
	}
}

func TestItBreaksAsItStands(t *testing.T) {
	for k := 1; k <= 2; k++ {
		o := fresh(t, 0, 3)
		o.stand(1, 0)
		o.quiet(3)
		wantErr(t, "SetFuse", o.d.SetFuse(k, 0), api.OK)
		o.refusedTick(api.ErrDown)
		o.wantRole(api.RoleStand)
		// It is the proposer of before, since all else is as it was; but it can't lead any more.
		o.refusedStep(o.in(1, promise(ballot(1, 0), 0)), api.ErrBroken)
	}
}

// TestItCanNotPrepareBehindTheLastSlot: Upto is no slot then.
func TestItCanNotPrepareBehindTheLastSlot(t *testing.T) {
	o := laid(t, 0, 3, func(s *store.Store) {
		s.Install(latest, nil)
		s.Choose(plain(latest, named(1)))
	})
	for range 2 {
		o.quiet(3)
		o.refusedTick(api.ErrArg)
		o.wantRole(api.RoleFollow)
	}
	o.wantPromised(api.Ballot{})
}

// TestALeaderStandsNoMore: it ticks, and stays what it is.
func TestALeaderStandsNoMore(t *testing.T) {
	o := fresh(t, 0, 3)
	b := o.lead(1)
	for range 30 {
		o.tick(o.all(beat(b, 0))...)
		o.wantRole(api.RoleLead)
		o.wantLeader(b)
	}
}

func TestOneAloneTicks(t *testing.T) {
	o := fresh(t, 0, 1)
	o.quiet(20)
	o.wantRole(api.RoleLead)
	o.wantLeader(ballot(1, 0))
	o.propose(named(1))
	o.quiet(20)
	o.wantNext(0, named(1))
}

// TestALeaderAsksAgain: those that have not accepted, for the first 16 slots that wait.
func TestALeaderAsksAgain(t *testing.T) {
	for waiting := int64(15); waiting <= 18; waiting++ {
		o := fresh(t, 1, 3)
		b := o.lead(1)
		for slot := range waiting {
			o.propose(named(slot+1), o.all(accept(b, slot, named(slot+1)))...)
		}
		want := o.all(beat(b, 0))
		for slot := range min(waiting, 16) {
			want = append(want, o.all(accept(b, slot, named(slot+1)))...)
		}
		o.tick(want...)
		o.tick(want...)
	}
}

// TestALeaderAsksThoseThatAreMissing: of five, for each slot another set.
func TestALeaderAsksThoseThatAreMissing(t *testing.T) {
	o := fresh(t, 2, 5)
	b := o.lead(1)
	for slot := range int64(6) {
		o.propose(named(slot+1), o.all(accept(b, slot, named(slot+1)))...)
	}
	who := [][]int{{}, {0}, {4}, {1, 3}, {3}, {0, 4}} // those with two are chosen
	for slot, l := range who {
		for _, i := range l {
			o.do(o.in(i, accepted(b, int64(slot))))
		}
	}
	want := o.all(beat(b, 0))
	for slot, missing := range [][]int{{0, 1, 3, 4}, {1, 3, 4}, {0, 1, 3}, {}, {0, 1, 4}, {}} {
		for _, i := range missing {
			want = append(want, o.out(i, accept(b, int64(slot), named(int64(slot)+1))))
		}
	}
	o.tick(want...)
}

// TestALeaderSettles: what others have chosen below Upto is not asked for any more, and counts no more as waiting; what is above it still does.
func TestALeaderSettles(t *testing.T) {
	o := fresh(t, 0, 3)
	b := o.lead(1)
	for slot := range int64(4) {
		o.propose(named(slot+1), o.all(accept(b, slot, named(slot+1)))...)
	}
	o.step(o.in(1, chosen(plain(0, named(1)), plain(1, named(2)), plain(3, named(4)))))
	want := o.all(beat(b, 2))
	want = append(want, o.all(accept(b, 2, named(3)))...)
	want = append(want, o.all(accept(b, 3, named(4)))...)
	o.tick(want...)
	// Slot 0 is settled: who accepts it now brings nothing more.
	o.step(o.in(1, accepted(b, 0)))
	o.step(o.in(2, accepted(b, 2)), o.all(chosen(with(2, b, named(3))))...)
	o.wantUpto(4)
	o.tick(o.all(beat(b, 4))...)
	o.step(o.in(2, accepted(b, 3)))
}
