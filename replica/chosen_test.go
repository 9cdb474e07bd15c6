package replica_test

import (
	"testing"

	"orchard/api"
	"orchard/store"
)

// P10.4: MsChosen, MsBeat and MsAsk: how one that lags behind catches up.

func TestItIsToldWhatIsChosen(t *testing.T) {
	o := fresh(t, 0, 3)
	o.step(o.in(1, chosen(plain(1, sample(2)))))
	o.wantUpto(0)
	o.wantChosen(1, sample(2))
	o.wantNoNext()
	o.step(o.in(2, chosen(with(0, ballot(7, 1), sample(5)), plain(2, sample(7)))))
	o.wantUpto(3)
	o.wantNext(0, sample(5))
	o.wantNext(1, sample(2))
	o.wantNext(2, sample(7))
	o.wantNoNext()
	o.wantNoLeader()
	o.wantPromised(api.Ballot{})
	if _, is := o.s.Accepted(0); is {
		t.Error("what is chosen is accepted")
	}
}

// TestChosenBelowFirst: what is in the checkpoint is passed over, whatever it is; the others are chosen.
func TestChosenBelowFirst(t *testing.T) {
	o := laid(t, 0, 3, func(s *store.Store) { s.Install(5, nil) })
	o.step(o.in(1, chosen(plain(4, named(1)), plain(5, named(6)), plain(0, tooLong()), plain(4, named(2)), plain(6, named(7)))))
	o.wantUpto(7)
	o.wantNotChosen(4)
	o.step(o.in(1, chosen(plain(4, named(1)))))
	o.wantUpto(7)
}

// TestChosenThatTheStoreRefuses: all of the message is passed over.
func TestChosenThatTheStoreRefuses(t *testing.T) {
	o := fresh(t, 0, 3)
	o.do(o.in(1, chosen(plain(1, named(2)))))
	for _, l := range [][]api.Slotted{
		{plain(0, named(1)), plain(1, named(3))},
		{plain(0, named(1)), plain(2, named(1)), plain(2, named(1))},
		{plain(0, named(1)), plain(2, tooLong())},
	} {
		o.step(o.in(1, chosen(l...)))
		o.wantUpto(0)
		o.wantNotChosen(2)
	}
	o.wantChosen(1, named(2))
	o.step(o.in(1, chosen(plain(0, long()), plain(1, named(2)), plain(latest, named(9)))))
	o.wantUpto(2)
	o.wantChosen(latest, named(9))
}

func TestBeats(t *testing.T) {
	o := fresh(t, 0, 5)
	b := ballot(3, 2)
	o.step(o.in(1, beat(b, 0)))
	o.wantLeader(b)
	o.wantPromised(api.Ballot{}) // a beat promises nothing
	// Nothing was promised, so a lesser one is taken, too.
	o.step(o.in(4, beat(ballot(1, 4), 0)))
	o.wantLeader(ballot(1, 4))
	o.step(o.in(4, beat(api.Ballot{}, 0)))
	o.wantLeader(api.Ballot{})
	o.propose(named(1), o.out(0, forward(named(1))))
	o.wantWait(0, 4)
}

func TestBeatsThatAreRefused(t *testing.T) {
	o := laid(t, 0, 5, func(s *store.Store) { s.Prepare(ballot(5, 2), 0) })
	for _, b := range []api.Ballot{ballot(5, 1), ballot(4, 4), {}} {
		o.step(o.in(3, beat(b, 9)), o.out(3, refuse(ballot(5, 2))))
		o.wantNoLeader()
	}
	o.step(o.in(3, beat(ballot(5, 2), 9)), o.out(3, ask(0)))
	o.wantLeader(ballot(5, 2))
	o.step(o.in(3, beat(ballot(5, 3), 0)))
	o.wantLeader(ballot(5, 3))
	o.step(o.in(2, beat(ballot(5, 2), 0)))
	o.wantLeader(ballot(5, 2))
	o.wantPromised(ballot(5, 2))
}

// TestBeatsAreAskedBack: from Upto on, if the leader has more.
func TestBeatsAreAskedBack(t *testing.T) {
	o := laid(t, 0, 3, func(s *store.Store) {
		s.Install(3, nil)
		s.Choose(run(3, 6, api.Ballot{})...)
		s.Choose(plain(7, named(8)))
	})
	b := ballot(1, 1)
	for _, slot := range []int64{0, 3, 5, 6} {
		o.step(o.in(1, beat(b, slot)))
	}
	for _, slot := range []int64{7, 8, latest} {
		o.step(o.in(1, beat(b, slot)), o.out(1, ask(6)))
		o.step(o.in(2, beat(b, slot)), o.out(2, ask(6)))
	}
}

func TestGivingWayToABeat(t *testing.T) {
	for _, leads := range []bool{false, true} {
		o := fresh(t, 1, 3)
		var b api.Ballot
		if leads {
			b = o.lead(1)
		} else {
			b = o.stand(1, 0)
		}
		role := o.Role()
		o.step(o.in(0, beat(ballot(1, 0), 4)), o.out(0, refuse(b)))
		o.step(o.in(0, beat(b, 4)), o.out(0, ask(0)))
		o.wantRole(role)
		o.wantLeader(b)
		o.step(o.in(2, beat(ballot(1, 2), 4)), o.out(2, ask(0)))
		o.wantRole(api.RoleFollow)
		o.wantLeader(ballot(1, 2))
		o.wantPromised(b)
		o.step(o.in(0, promise(b, 0)))
		o.wantRole(api.RoleFollow)
		o.wantWait(0, 2)
	}
}

// TestItTellsWhatIsChosen: up to 64 at once, without their ballots, and none behind a gap.
func TestItTellsWhatIsChosen(t *testing.T) {
	for _, many := range []int64{1, 63, 64, 65, 130} {
		o := laid(t, 0, 3, func(s *store.Store) {
			s.Install(5, nil)
			s.Choose(run(5, 5+many, api.Ballot{})...)
			s.Choose(plain(5+many+1, named(1)))
		})
		o.quiet(3)
		for _, from := range []int64{5, 6, 5 + many - 1} {
			l := run(from, min(from+64, 5+many), api.Ballot{})
			if from >= 5+many {
				continue
			}
			o.step(o.in(2, ask(from)), o.out(2, chosen(l...)))
		}
		// At Upto and behind it there is nothing; nor is there at a slot with a gap ahead of it but the row from it on.
		o.step(o.in(2, ask(5+many)))
		o.step(o.in(2, ask(5+many+1)), o.out(2, chosen(plain(5+many+1, named(1)))))
		o.step(o.in(2, ask(5+many+2)))
		o.step(o.in(2, ask(latest)))
		o.wantWait(3, 1)
	}
}

// TestWhatIsToldIsWhatTheStoreHas: also of one that leads, without its ballot.
func TestWhatIsToldIsWhatTheStoreHas(t *testing.T) {
	o := filled(t, 3)
	o.do(o.in(1, accepted(ballot(1, 0), 0)))
	o.do(o.in(1, accepted(ballot(1, 0), 1)))
	o.step(o.in(2, ask(0)), o.out(2, chosen(plain(0, named(1)), plain(1, named(2)))))
}

// TestOneThatLagsCatchesUp: by a beat, what it asks back, and what it is told then, in as many rounds as it takes.
func TestOneThatLagsCatchesUp(t *testing.T) {
	leader := laid(t, 0, 3, func(s *store.Store) { s.Choose(run(0, 150, api.Ballot{})...) })
	b := leader.lead(1)
	lags := fresh(t, 2, 3)
	for _, upto := range []int64{64, 128, 150} {
		leader.tick(leader.all(beat(b, 150))...)
		was := lags.Upto()
		lags.step(lags.in(0, beat(b, 150)), lags.out(0, ask(was)))
		tells := chosen(run(was, upto, api.Ballot{})...)
		leader.step(leader.in(2, ask(was)), leader.out(2, tells))
		lags.step(lags.in(0, tells))
		lags.wantUpto(upto)
	}
	lags.step(lags.in(0, beat(b, 150)))
	for slot := range int64(150) {
		lags.wantNext(slot, named(slot+1))
	}
}
