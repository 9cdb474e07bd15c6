package replica_test

import (
	"fmt"
	"testing"

	"orchard/api"
	"orchard/store"
)

// A store that is broken ahead of a call, and one that breaks in its midst.

// act is something that is asked of a replica, in a state that is made for it: how often it changes the disk, what it answers of a store that is broken ahead of it, and what the replica is behind it then.
type act struct {
	what    string
	make    func(t *testing.T) *one
	ask     func(o *one) ([]api.Msg, api.Errno)
	changes int
	broken  api.Errno
	after   func(o *one)
}

func stepOf(from int, m api.Msg) func(o *one) ([]api.Msg, api.Errno) {
	return func(o *one) ([]api.Msg, api.Errno) { return o.Step(o.in(from, m)) }
}

// acts are those that ask their store for something.
func acts() []act {
	b := ballot(1, 0)
	waits := func(t *testing.T) *one {
		o := fresh(t, 0, 3)
		o.quiet(3)
		return o
	}
	leader := func(t *testing.T) *one { return filled(t, 2) }
	full := func(t *testing.T) *one { return filled(t, 64) }
	stands := func(t *testing.T) *one {
		o := laid(t, 0, 3, func(s *store.Store) { s.Accept(ballot(1, 1), run(0, 3, api.Ballot{})...) })
		o.stand(2, 0)
		return o
	}
	gathers := func(t *testing.T) *one {
		o := filled(t, 2)
		o.do(o.in(1, state(9, 0, 2, "a")))
		return o
	}
	told := func(t *testing.T) *one {
		o := fresh(t, 0, 3)
		o.do(o.in(1, chosen(run(0, 4, api.Ballot{})...)))
		o.learn()
		return o
	}
	wantRole := func(role int) func(o *one) { return func(o *one) { o.t.Helper(); o.wantRole(role) } }
	unled := func(o *one) { o.t.Helper(); o.wantRole(api.RoleFollow); o.wantNoLeader() }
	return []act{
		{"Tick that stands", waits, func(o *one) ([]api.Msg, api.Errno) { return o.Tick() }, 2, api.ErrBroken, unled},
		{"Propose", leader, func(o *one) ([]api.Msg, api.Errno) { return o.Propose(named(9)) }, 2, api.ErrBroken, wantRole(api.RoleLead)},
		{"Propose of one that is full", full, func(o *one) ([]api.Msg, api.Errno) { return o.Propose(named(99)) }, 0, api.ErrFull, wantRole(api.RoleLead)},
		{"MsPrepare", leader, stepOf(1, prepare(ballot(2, 1), 0)), 2, api.ErrBroken, wantRole(api.RoleLead)},
		{"MsPromise that makes it lead", stands, stepOf(1, promise(ballot(2, 0), 0)), 4, api.ErrBroken, func(o *one) {
			// It leads ahead of asking the store.
			o.t.Helper()
			o.wantRole(api.RoleLead)
			o.wantLeader(ballot(2, 0))
		}},
		{"MsAccept", leader, stepOf(1, accept(ballot(2, 1), 0, named(9))), 2, api.ErrBroken, func(o *one) {
			o.t.Helper()
			o.wantRole(api.RoleLead)
			o.wantLeader(b)
		}},
		{"MsAccepted that chooses", leader, stepOf(1, accepted(b, 1)), 1, api.ErrBroken, wantRole(api.RoleLead)},
		{"MsChosen", leader, stepOf(1, chosen(plain(5, named(6)))), 1, api.ErrBroken, wantRole(api.RoleLead)},
		{"MsForward", leader, stepOf(1, forward(named(9))), 2, api.ErrBroken, wantRole(api.RoleLead)},
		{"MsForward to one that is full", full, stepOf(1, forward(named(99))), 0, api.ErrFull, wantRole(api.RoleLead)},
		{"MsState that is whole", gathers, stepOf(1, state(9, 1, 2, "b")), 5, api.ErrBroken, wantRole(api.RoleLead)},
		{"Checkpoint", told, func(o *one) ([]api.Msg, api.Errno) { return nil, o.Checkpoint(2, []byte("two")) }, 6, api.ErrBroken, unled},
	}
}

func TestBrokenAheadOfACall(t *testing.T) {
	for _, a := range acts() {
		o := a.make(t)
		o.breakStore()
		before := files(o.d)
		l, err := a.ask(o)
		o.refused(a.what, a.broken, l, err)
		a.after(o)
		if files(o.d) != before {
			t.Errorf("%s: the disk has changed", a.what)
		}
	}
}

// TestBreaksInTheMidst: at each change of the disk.
func TestBreaksInTheMidst(t *testing.T) {
	for _, a := range acts() {
		for k := 1; k <= a.changes; k++ {
			o := a.make(t)
			wantErr(t, "SetFuse", o.d.SetFuse(k, 3), api.OK)
			what := fmt.Sprintf("%s with a crash at %d", a.what, k)
			l, err := a.ask(o)
			o.refused(what, api.ErrDown, l, err)
			a.after(o)
			if !o.Broken() {
				t.Errorf("%s: it is not broken", what)
			}
			// And from then on it is.
			l, err = o.Step(o.in(2, chosen(plain(1000, named(1)))))
			o.refused(what+", and MsChosen", api.ErrBroken, l, err)
		}
		if a.changes == 0 {
			continue
		}
		o := a.make(t)
		wantErr(t, "SetFuse", o.d.SetFuse(a.changes+1, 0), api.OK)
		if _, err := a.ask(o); err != api.OK || o.Broken() || o.d.Down() {
			t.Errorf("%s without a crash: error %d, broken %v", a.what, err, o.Broken())
		}
	}
}

// TestBrokenWhereNoStoreIsAsked: these go on as ever.
func TestBrokenWhereNoStoreIsAsked(t *testing.T) {
	b := ballot(1, 0)
	o := fresh(t, 0, 3)
	o.breakStore()
	o.refusedPropose(named(1), api.ErrLeader)
	o.quiet(2)
	o.step(o.in(1, beat(ballot(2, 1), 4)), o.out(1, ask(0)))
	o.wantLeader(ballot(2, 1))
	o.propose(named(1), o.out(1, forward(named(1))))
	o.step(o.in(1, forward(named(1))))
	o.step(o.in(1, promise(b, 0)))
	o.step(o.in(1, accepted(b, 0)))
	o.step(o.in(1, state(9, 0, 2, "a")))
	o.step(o.in(1, state(0, 0, 1, "a")))
	wantErr(t, "Checkpoint above Told", o.Checkpoint(1, nil), api.ErrArg)
	wantErr(t, "Checkpoint", o.Checkpoint(0, nil), api.ErrBroken)
	o.refusedStep(o.in(1, chosen(plain(0, named(1)))), api.ErrBroken)

	o = filled(t, 2)
	o.breakStore()
	want := o.all(beat(b, 0))
	for slot := range int64(2) {
		want = append(want, o.all(accept(b, slot, named(slot+1)))...)
	}
	o.tick(want...)
	o.step(o.in(1, accepted(b, 7)))
	o.step(o.in(1, refuse(b)))
	o.wantRole(api.RoleLead)
	o.step(o.in(1, beat(ballot(1, 2), 0)))
	o.wantRole(api.RoleFollow)

	o = laid(t, 0, 3, func(s *store.Store) {
		s.Install(5, []byte("state"))
		s.Choose(run(5, 7, api.Ballot{})...)
		s.Prepare(ballot(3, 1), 0)
	})
	o.breakStore()
	o.step(o.in(1, prepare(b, 4)), o.cut(1, 5, "state")...)
	o.step(o.in(1, accept(b, 4, named(1))), o.cut(1, 5, "state")...)
	o.step(o.in(1, ask(4)), o.cut(1, 5, "state")...)
	o.step(o.in(1, ask(5)), o.out(1, chosen(run(5, 7, api.Ballot{})...)))
	o.step(o.in(1, beat(b, 4)), o.out(1, refuse(ballot(3, 1))))
	// To choose nothing is to ask the store, too.
	o.refusedStep(o.in(1, chosen(plain(4, named(1)))), api.ErrBroken)
	o.refusedStep(o.in(1, prepare(b, 5)), api.ErrBroken)
	o.refusedStep(o.in(1, accept(b, 5, named(1))), api.ErrBroken)
}

// TestWhatWasDoneAheadStaysDone: of a call in whose midst the store breaks.
func TestWhatWasDoneAheadStaysDone(t *testing.T) {
	// One alone leads with two entries: the second one's choice breaks.
	o := laid(t, 0, 1, func(s *store.Store) { s.Accept(ballot(1, 0), run(0, 2, api.Ballot{})...) })
	o.quiet(3)
	const prepared, accepts = 2, 3
	wantErr(t, "SetFuse", o.d.SetFuse(prepared+accepts+2, 0), api.OK)
	o.refusedTick(api.ErrDown)
	o.wantRole(api.RoleLead)
	o.wantLeader(ballot(2, 0))
	o.wantUpto(1)
	o.wantNext(0, named(1))
	o.wantNoNext()
	o.quiet(3) // it leads, and has nobody to tell

	// One alone proposes: it is accepted, and its choice breaks.
	o = fresh(t, 0, 1)
	o.quiet(4)
	wantErr(t, "SetFuse", o.d.SetFuse(3, 0), api.OK)
	o.refusedPropose(named(1), api.ErrDown)
	o.wantAccepted(with(0, ballot(1, 0), named(1)))
	o.wantNoNext()
	wantErr(t, "Restart", o.d.Restart(), api.OK)
	a := o.again()
	a.quiet(4)
	a.wantNext(0, named(1))

	// A majority has accepted, but the choice breaks: the leader has counted it, and tells nobody.
	o = filled(t, 1)
	wantErr(t, "SetFuse", o.d.SetFuse(1, 0), api.OK)
	o.refusedStep(o.in(1, accepted(ballot(1, 0), 0)), api.ErrDown)
	o.tick(o.all(beat(ballot(1, 0), 0))...)

	// A checkpoint's parts are let go of, though the store breaks by them.
	o = fresh(t, 0, 3)
	o.do(o.in(1, state(9, 0, 2, "a")))
	wantErr(t, "SetFuse", o.d.SetFuse(1, 0), api.OK)
	o.refusedStep(o.in(1, state(9, 1, 2, "b")), api.ErrDown)
	o.step(o.in(1, state(9, 1, 2, "b")))
	o.refusedStep(o.in(1, state(9, 0, 2, "a")), api.ErrBroken)

	// A round that came with a message counts, though the store breaks by it: the next one to stand for is above all.
	o = fresh(t, 0, 3)
	wantErr(t, "SetFuse", o.d.SetFuse(1, 0), api.OK)
	o.refusedStep(o.in(1, prepare(ballot(latest, 1), 0)), api.ErrDown)
	o.quiet(3)
	o.refusedTick(api.ErrLong)
}

// TestADiskWithoutRoom: ErrFull is the disk's then, and breaks the store.
func TestADiskWithoutRoom(t *testing.T) {
	o := fresh(t, 0, 3)
	b := o.lead(1)
	wantErr(t, "Append", o.d.Append("much", make([]byte, roomy-o.d.Used()-3)), api.OK)
	o.refusedPropose(named(1), api.ErrFull)
	if !o.Broken() {
		t.Error("it is not broken")
	}
	o.tick(o.all(beat(b, 0))...)
	o.refusedPropose(named(1), api.ErrBroken)
	o.refusedStep(o.in(1, forward(named(1))), api.ErrBroken)
}
