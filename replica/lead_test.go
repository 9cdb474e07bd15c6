package replica_test

import (
	"testing"

	"orchard/api"
	"orchard/disk"
	"orchard/record"
	"orchard/store"
	"orchard/wal"
	"orchard/wire"
)

// How one that stands comes to lead ("It stands", "It leads" and "It settles" of the chapter's words; MsPromise and MsRefuse of P10.4).

func TestAMajorityMakesALeader(t *testing.T) {
	for n := 2; n <= 5; n++ {
		for self := range n {
			o := fresh(t, self, n)
			b := o.stand(1, 0)
			for i, left := 0, n/2; i < n; i++ {
				if i == self {
					continue
				}
				left--
				switch {
				case left > 0:
					o.step(o.in(i, promise(b, 0)))
					// The same one again does not count.
					o.step(o.in(i, promise(b, 0)))
					o.wantRole(api.RoleStand)
					o.wantNoLeader()
				case left == 0:
					o.step(o.in(i, promise(b, 0)), o.all(beat(b, 0))...)
				default:
					o.step(o.in(i, promise(b, 0)))
				}
			}
			o.wantRole(api.RoleLead)
			o.wantLeader(b)
		}
	}
}

// TestPromisesForAnotherBallot: one of before, one that is greater, one of another replica.
func TestPromisesForAnotherBallot(t *testing.T) {
	o := fresh(t, 0, 3)
	o.stand(1, 0)
	b := o.stand(2, 0)
	for _, other := range []api.Ballot{ballot(1, 0), ballot(2, 1), ballot(3, 0), {}} {
		o.step(o.in(1, promise(other, 0)))
		o.wantRole(api.RoleStand)
	}
	o.step(o.in(1, promise(b, 0)), o.all(beat(b, 0))...)
}

func TestPromisesToOneThatDoesNotStand(t *testing.T) {
	o := fresh(t, 0, 3)
	o.step(o.in(1, promise(ballot(1, 0), 0)))
	o.step(o.in(1, promise(api.Ballot{}, 0)))
	o.wantRole(api.RoleFollow)
	o.wantWait(0, 2)
}

// TestPromisesThatTheProposerRefuses: they count for nothing, and the replica may promise again.
func TestPromisesThatTheProposerRefuses(t *testing.T) {
	for _, l := range [][]api.Slotted{
		{with(4, ballot(1, 1), named(1))},                                          // below where it began
		{with(6, ballot(2, 0), named(1))},                                          // not below its own ballot
		{with(6, ballot(1, 1), named(1)), with(6, ballot(1, 2), named(1))},         // twice
		{with(5+4097, ballot(1, 1), named(1))},                                     // too far
		{with(6, ballot(1, 1), named(1)), with(latest, api.Ballot{}, api.Entry{})}, // much too far
	} {
		o := laid(t, 0, 3, func(s *store.Store) { s.Install(5, nil) })
		o.do(o.in(1, refuse(ballot(1, 1))))
		b := o.stand(2, 5)
		o.step(o.in(1, promise(b, 5, l...)))
		o.wantRole(api.RoleStand)
		o.step(o.in(1, promise(b, 5)), o.all(beat(b, 5))...)
	}
}

// TestAPromiseFarAhead: as far as the proposer lets it; all slots ahead of it are filled.
func TestAPromiseFarAhead(t *testing.T) {
	o := fresh(t, 1, 2)
	b := ballot(2, 1)
	o.do(o.in(0, refuse(ballot(1, 0))))
	o.quiet(5)
	o.tick(o.all(prepare(b, 0))...)
	var want []api.Msg
	for slot := range int64(4096) {
		want = append(want, o.out(0, accept(b, slot, api.Entry{})))
	}
	want = append(want, o.out(0, accept(b, 4096, named(1))), o.out(0, beat(b, 0)))
	o.step(o.in(0, promise(b, 0, with(4096, ballot(1, 0), named(1)))), want...)
	o.wantAccepted(with(7, b, api.Entry{}))
	o.wantAccepted(with(4096, b, named(1)))
	o.refusedPropose(named(2), api.ErrFull)
}

// TestItCanNotPromiseItself: what it has accepted is too far ahead for its proposer; the others may still make it the leader.
func TestItCanNotPromiseItself(t *testing.T) {
	o := laid(t, 0, 3, func(s *store.Store) { s.Accept(ballot(1, 1), plain(4097, named(1))) })
	b := o.stand(2, 0)
	o.step(o.in(1, promise(b, 0)))
	o.wantRole(api.RoleStand)
	o.step(o.in(2, promise(b, 0)), o.all(beat(b, 0))...)
	o.wantRole(api.RoleLead)

	alone := laid(t, 0, 1, func(s *store.Store) { s.Accept(ballot(1, 0), plain(4097, named(1))) })
	alone.quiet(4)
	alone.wantRole(api.RoleStand)
	alone.wantNoLeader()
	alone.wantPromised(ballot(2, 0))
	near := laid(t, 0, 1, func(s *store.Store) { s.Accept(ballot(1, 0), plain(4096, named(1))) })
	near.quiet(4)
	near.wantRole(api.RoleLead)
	near.wantUpto(4097)
}

// TestALeaderTakesOver: of each slot what was accepted with the greatest ballot, its own too; EnNone, where nothing was; in order, each to all, and then the beat.
func TestALeaderTakesOver(t *testing.T) {
	o := laid(t, 2, 5, func(s *store.Store) {
		s.Accept(ballot(1, 0), plain(0, named(1)), plain(1, named(2)), plain(3, sample(2)))
		s.Accept(ballot(3, 1), plain(4, sample(5)))
		s.Choose(plain(0, named(1)))
	})
	b := o.stand(4, 1)
	o.step(o.in(4, promise(b, 1, with(3, ballot(2, 0), sample(3)), with(4, ballot(3, 0), named(9)))))
	want := []api.Entry{named(2), {}, sample(3), sample(5), {}, sample(8)}
	var msgs []api.Msg
	for i, e := range want {
		msgs = append(msgs, o.all(accept(b, int64(i)+1, e))...)
	}
	msgs = append(msgs, o.all(beat(b, 1))...)
	o.step(o.in(0, promise(b, 1, with(6, ballot(1, 0), sample(8)), with(3, ballot(1, 1), named(8)))), msgs...)
	for i, e := range want {
		o.wantAccepted(with(int64(i)+1, b, e))
	}
	// It has counted itself: two of five more have to accept.
	o.step(o.in(3, accepted(b, 1)))
	o.step(o.in(1, accepted(b, 1)), o.all(chosen(with(1, b, named(2))))...)
	// What it is asked for now comes behind all that.
	o.propose(named(20), o.all(accept(b, 7, named(20)))...)
}

// TestOneAloneTakesOver: what it leads with is chosen at once.
func TestOneAloneTakesOver(t *testing.T) {
	o := laid(t, 0, 1, func(s *store.Store) {
		s.Accept(ballot(1, 0), plain(0, named(1)), plain(2, named(3)), plain(4, named(5)))
		s.Choose(plain(0, named(1)))
	})
	o.quiet(4)
	o.wantRole(api.RoleLead)
	o.wantLeader(ballot(2, 0))
	o.wantUpto(5)
	for slot, e := range []api.Entry{named(1), {}, named(3), {}, named(5)} {
		o.wantNext(int64(slot), e)
	}
	for slot := int64(1); slot < 5; slot++ {
		x, is := o.s.Accepted(slot)
		if !is || x.Ballot != ballot(2, 0) {
			t.Errorf("accepted for %d is %v, %v", slot, x, is)
		}
	}
	o.propose(named(6))
	o.wantNext(5, named(6))
}

// TestItSettlesAsItLeads: what became chosen while it stood is not asked for.
func TestItSettlesAsItLeads(t *testing.T) {
	o := laid(t, 0, 3, func(s *store.Store) { s.Accept(ballot(1, 1), run(0, 5, api.Ballot{})...) })
	b := o.stand(2, 0)
	o.step(o.in(2, chosen(plain(0, named(1)), plain(1, named(2)), plain(4, named(5)))))
	want := o.all(accept(b, 2, named(3)))
	want = append(want, o.all(accept(b, 3, named(4)))...)
	want = append(want, o.all(accept(b, 4, named(5)))...)
	o.step(o.in(1, promise(b, 0)), append(want, o.all(beat(b, 2))...)...)
	o.wantAccepted(with(0, ballot(1, 1), named(1)))
	o.wantAccepted(with(2, b, named(3)))
}

// TestSettledBehindACheckpoint: while it stood, slots that it takes over went into a checkpoint.
func TestSettledBehindACheckpoint(t *testing.T) {
	o := laid(t, 0, 3, func(s *store.Store) { s.Accept(ballot(1, 1), run(0, 5, api.Ballot{})...) })
	b := o.stand(2, 0)
	o.do(o.in(2, chosen(run(0, 3, api.Ballot{})...)))
	o.checkpoint(2, "two")
	want := o.all(accept(b, 3, named(4)))
	want = append(want, o.all(accept(b, 4, named(5)))...)
	o.step(o.in(1, promise(b, 0)), append(want, o.all(beat(b, 3))...)...)
}

// TestAnotherOneHasLedOn: if what is chosen goes beyond what it would put next, it steps down as soon as it leads; what it sends is sent.
func TestAnotherOneHasLedOn(t *testing.T) {
	o := fresh(t, 0, 3)
	b := o.stand(1, 0)
	o.step(o.in(2, chosen(plain(0, named(1)))))
	o.wantRole(api.RoleStand)
	o.step(o.in(1, promise(b, 0)), o.all(beat(b, 1))...)
	o.wantRole(api.RoleFollow)
	o.wantNoLeader()
	o.wantWait(0, 2)
}

func TestALeaderIsLedOn(t *testing.T) {
	o := fresh(t, 0, 3)
	b := o.lead(1)
	o.propose(named(1), o.all(accept(b, 0, named(1)))...)
	// Up to what it has put it may be told of it by others.
	o.step(o.in(2, chosen(plain(0, named(1)))))
	o.wantRole(api.RoleLead)
	o.step(o.in(2, chosen(plain(2, named(3)))))
	o.wantRole(api.RoleLead)
	o.step(o.in(2, chosen(plain(1, named(2)))))
	o.wantRole(api.RoleFollow)
	o.wantNoLeader()
	o.wantUpto(3)
	o.refusedPropose(named(9), api.ErrLeader)
	o.wantWait(0, 2)
}

// TestLedOnIsSeenBehindAnyMessage: but not behind one that is refused, nor by a tick.
func TestLedOnIsSeenBehindAnyMessage(t *testing.T) {
	b := ballot(1, 0)
	for _, m := range []api.Msg{promise(b, 0), accepted(b, 9), refuse(b), ask(7), beat(b, 0), prepare(b, 0)} {
		o := fresh(t, 0, 3)
		o.lead(1)
		wantErr(t, "Choose", o.s.Choose(plain(0, named(1))), api.OK) // behind its back
		o.refusedStep(o.in(0, ask(0)), api.ErrMessage)
		o.tick(o.all(beat(b, 1))...)
		o.wantRole(api.RoleLead)
		o.do(o.in(1, m))
		o.wantRole(api.RoleFollow)
		o.wantNoLeader()
	}
	// What the message brings is answered.
	o := fresh(t, 0, 3)
	o.lead(1)
	wantErr(t, "Choose", o.s.Choose(plain(0, named(1))), api.OK)
	o.step(o.in(1, ask(0)), o.out(1, chosen(plain(0, named(1)))))
	o.wantRole(api.RoleFollow)
}

func TestRefusals(t *testing.T) {
	for _, c := range []struct {
		b    api.Ballot
		down bool
	}{{ballot(5, 1), false}, {ballot(5, 2), false}, {ballot(5, 3), true}, {ballot(6, 0), true}, {ballot(4, 4), false}, {api.Ballot{}, false}} {
		for _, leads := range []bool{false, true} {
			o := fresh(t, 2, 4)
			o.do(o.in(0, refuse(ballot(4, 0))))
			var b api.Ballot
			if leads {
				b = o.lead(5)
			} else {
				b = o.stand(5, 0)
			}
			role := o.Role()
			o.step(o.in(1, refuse(c.b)))
			if !c.down {
				o.wantRole(role)
				if leads {
					o.wantLeader(b)
				}
				continue
			}
			o.wantRole(api.RoleFollow)
			o.wantNoLeader()
			o.wantPromised(b)
			o.wantWait(0, c.b.Round+1)
		}
	}
}

// TestAFollowerIsRefused: it hears of the round alone, and knows its leader still.
func TestAFollowerIsRefused(t *testing.T) {
	o := fresh(t, 0, 3)
	o.do(o.in(1, beat(ballot(2, 1), 0)))
	o.quiet(1)
	o.step(o.in(2, refuse(ballot(8, 2))))
	o.wantLeader(ballot(2, 1))
	o.wantWait(1, 9)
}

// TestItStandsAgainWhileItStands: the promises of before are not counted.
func TestItStandsAgainWhileItStands(t *testing.T) {
	o := fresh(t, 0, 5)
	b := o.stand(1, 0)
	o.step(o.in(1, promise(b, 0)))
	b = o.stand(2, 0)
	o.step(o.in(2, promise(b, 0)))
	o.wantRole(api.RoleStand)
	o.step(o.in(1, promise(b, 0)), o.all(beat(b, 0))...)
}

// TestItStandsAsItKnowsALeader: then it knows none any more.
func TestItStandsAsItKnowsALeader(t *testing.T) {
	o := fresh(t, 0, 3)
	o.do(o.in(1, beat(ballot(2, 1), 0)))
	o.wantLeader(ballot(2, 1))
	o.stand(3, 0)
	o.wantNoLeader()
	o.refusedPropose(named(1), api.ErrLeader)
}

// TestTheStoreRefusesWhatIsTakenOver: one entry that no store takes, wherever it stands among others. The refusal is passed over: the store has accepted none of them, but the replica counts itself for each, and asks the others all the same.
func TestTheStoreRefusesWhatIsTakenOver(t *testing.T) {
	for n := 2; n <= 5; n++ {
		for at := range int64(4) {
			o := fresh(t, 0, n)
			o.do(o.in(1, refuse(ballot(1, 1))))
			b := o.stand(2, 0)
			l := run(0, 4, ballot(1, 1))
			l[at].Entry = tooLong()
			var want []api.Msg
			for _, x := range l {
				want = append(want, o.all(accept(b, x.Slot, x.Entry))...)
			}
			o.promises(b, l, append(want, o.all(beat(b, 0))...))
			o.wantRole(api.RoleLead)
			o.wantLeader(b)
			for _, x := range l {
				if _, is := o.s.Accepted(x.Slot); is {
					t.Error("the store has accepted", x.Slot)
				}
			}
			o.chosenByTheOthers(b, l)
			for slot := range int64(4) {
				if slot == at {
					o.wantNotChosen(slot)
				} else {
					o.wantChosen(slot, named(slot+1))
				}
			}
			// The proposer has it as chosen, and asks for nothing more.
			o.wantUpto(at)
			o.tick(o.all(beat(b, at))...)
			o.propose(named(9), o.all(accept(b, 4, named(9)))...)
		}
	}
}

// promises lets so many of the others promise that replica 0 comes to lead; the first one has accepted l.
func (o *one) promises(b api.Ballot, l []api.Slotted, want []api.Msg) {
	o.t.Helper()
	most := o.c.N / 2
	for i := 1; i < most; i++ {
		o.step(o.in(i, promise(b, 0, l...)))
		l = nil
	}
	o.step(o.in(most, promise(b, 0, l...)), want...)
}

// chosenByTheOthers: so many of them accept each of l that with replica 0 they are a majority, and no sooner is it chosen.
func (o *one) chosenByTheOthers(b api.Ballot, l []api.Slotted) {
	o.t.Helper()
	most := o.c.N / 2
	for _, x := range l {
		for i := 1; i < most; i++ {
			o.step(o.in(i, accepted(b, x.Slot)))
			o.wantNotChosen(x.Slot)
		}
		o.step(o.in(most, accepted(b, x.Slot)), o.all(chosen(with(x.Slot, b, x.Entry)))...)
		for i := 1; i < o.c.N; i++ {
			o.step(o.in(i, accepted(b, x.Slot)))
		}
	}
}

// TestTheStoreHasPromisedMoreAsItLeads: behind its back; then the store's ErrLow is passed over likewise.
func TestTheStoreHasPromisedMoreAsItLeads(t *testing.T) {
	o := laid(t, 0, 3, func(s *store.Store) { s.Accept(ballot(1, 1), plain(0, named(1))) })
	b := o.stand(2, 0)
	if _, err := o.s.Prepare(ballot(3, 1), 0); err != api.OK {
		t.Fatal("Prepare", err)
	}
	o.step(o.in(1, promise(b, 0)), append(o.all(accept(b, 0, named(1))), o.all(beat(b, 0))...)...)
	o.wantRole(api.RoleLead)
	o.wantAccepted(with(0, ballot(1, 1), named(1)))
	o.chosenByTheOthers(b, listOf(plain(0, named(1))))
	o.wantChosen(0, named(1))
}

// TestOneAloneTakesOverWhatItsStoreRefuses: its disk was written by somebody else; what its proposer has as chosen the store refuses once more, and the slots around it are chosen.
func TestOneAloneTakesOverWhatItsStoreRefuses(t *testing.T) {
	d := newDisk(t)
	layAccepted(t, d, ballot(1, 0), plain(0, named(1)), plain(1, tooLong()), plain(2, named(3)))
	o := over(t, d, 0, 1)
	o.wantAccepted(with(1, ballot(1, 0), tooLong()))
	o.quiet(4)
	o.wantRole(api.RoleLead)
	o.wantLeader(ballot(2, 0))
	o.wantAccepted(with(0, ballot(1, 0), named(1)))
	o.wantChosen(0, named(1))
	o.wantNotChosen(1)
	o.wantChosen(2, named(3))
	o.propose(named(4))
	o.wantChosen(3, named(4))
	o.wantUpto(1)
}

// layAccepted writes what is accepted on a disk, as a store's log has it.
func layAccepted(t *testing.T, d *disk.Disk, b api.Ballot, l ...api.Slotted) {
	t.Helper()
	log, err := wal.Open(d, "log")
	wantErr(t, "wal.Open", err, api.OK)
	for _, x := range l {
		form, err := record.Entry(x.Entry)
		wantErr(t, "record.Entry", err, api.OK)
		w := wire.NewWriter()
		w.Int(2)
		w.Int(b.Round)
		w.Int(int64(b.Replica))
		w.Int(x.Slot)
		w.Bytes(form)
		wantErr(t, "Append", log.Append(w.Out()), api.OK)
	}
	wantErr(t, "Sync", log.Sync(), api.OK)
}

func TestALeaderTakesOverALongOne(t *testing.T) {
	o := fresh(t, 0, 2)
	o.do(o.in(1, refuse(ballot(1, 1))))
	b := o.stand(2, 0)
	o.step(o.in(1, promise(b, 0, with(0, ballot(1, 1), long()))), o.out(1, accept(b, 0, long())), o.out(1, beat(b, 0)))
	o.step(o.in(1, accepted(b, 0)), o.out(1, chosen(with(0, b, long()))))
	o.wantNext(0, long())
}
