package replica_test

import (
	"fmt"
	"math"
	"testing"

	"orchard/api"
	"orchard/store"
)

// P10.4: messages that are refused, and that they change nothing.

// states are replicas 0 of 3, in all that they can be; each call makes them anew.
func states() map[string]func(t *testing.T) *one {
	return map[string]func(t *testing.T) *one{
		"new": func(t *testing.T) *one { return fresh(t, 0, 3) },
		"waits": func(t *testing.T) *one {
			o := fresh(t, 0, 3)
			o.quiet(3)
			return o
		},
		"follows": func(t *testing.T) *one {
			o := laid(t, 0, 3, func(s *store.Store) {
				s.Install(3, []byte("state"))
				s.Accept(ballot(2, 1), run(3, 7, api.Ballot{})...)
				s.Choose(run(3, 5, api.Ballot{})...)
			})
			o.do(o.in(1, beat(ballot(2, 1), 5)))
			o.quiet(2)
			return o
		},
		"stands": func(t *testing.T) *one {
			o := laid(t, 0, 3, func(s *store.Store) { s.Accept(ballot(1, 1), plain(1, named(2))) })
			o.stand(2, 0)
			o.quiet(1)
			return o
		},
		"leads": func(t *testing.T) *one {
			o := filled(t, 5)
			o.do(o.in(1, accepted(ballot(1, 0), 0)))
			o.do(o.in(2, chosen(plain(1, named(2)))))
			return o
		},
		"gathers": func(t *testing.T) *one {
			o := fresh(t, 0, 3)
			o.do(o.in(2, state(60, 0, 2, "half")))
			return o
		},
	}
}

// trace is what a replica answers to a row of calls that bring to light all that it keeps: its wait, rounds, proposer, parts.
func trace(o *one) string {
	s := o.face() + "\n" + files(o.d)
	note := func(what string, l []api.Msg, err api.Errno) {
		s += fmt.Sprintln(what, err, tellAll(l), o.face())
	}
	l, err := o.Tick()
	note("tick", l, err)
	l, err = o.Propose(named(90))
	note("propose", l, err)
	for i := 1; i <= 2; i++ {
		// Not to the others, who would hear of its round.
		switch o.Role() {
		case api.RoleStand:
			l, err = o.Step(o.in(i, promise(ballot(2, 0), 0)))
			note("promise", l, err)
		case api.RoleLead:
			l, err = o.Step(o.in(i, accepted(ballot(1, 0), 3)))
			note("accepted", l, err)
		}
	}
	l, err = o.Step(o.in(2, state(60, 1, 2, "whole")))
	note("state", l, err)
	for range 5 {
		l, err = o.Tick()
		note("tick", l, err)
	}
	return s + files(o.d)
}

// wantUnchanged: two that were brought up alike; one of them is asked what must change nothing; and both go on alike.
func wantUnchanged(t *testing.T, what string, make func(t *testing.T) *one, ask func(o *one)) {
	t.Helper()
	asked := make(t)
	ask(asked)
	if got, want := trace(asked), trace(make(t)); got != want {
		t.Errorf("%s: it has changed: it answers\n%s\nwant\n%s", what, got, want)
	}
}

// TestTraces: what the tests below look at is there.
func TestTraces(t *testing.T) {
	seen := map[string]string{}
	for name, make := range states() {
		one := trace(make(t))
		if one != trace(make(t)) {
			t.Errorf("%s: traces are unlike", name)
		}
		if other, is := seen[one]; is {
			t.Errorf("%s and %s have the same trace", name, other)
		}
		seen[one] = name
	}
}

// noMessages are messages to replica 0 of 3 that may not be, or are for another one; but for what is wrong they would be taken.
func noMessages() []api.Msg {
	zero, own := addr(1), addr(0)
	b := ballot(9, 1)
	good := func() api.Msg { return api.Msg{Kind: api.MsBeat, From: zero, To: own, Ballot: b, Slot: 20} }
	var l []api.Msg
	bad := func(change func(m *api.Msg)) {
		m := good()
		change(&m)
		l = append(l, m)
	}
	for _, kind := range []int{math.MinInt, -1, 0, api.MsKnown, api.MsPush, api.MsEpoch, api.MsPart, api.MsWant, 16, math.MaxInt} {
		bad(func(m *api.Msg) { m.Kind = kind })
		bad(func(m *api.Msg) { m.Kind, m.Ballot, m.Slot = kind, api.Ballot{}, 0 })
	}
	for _, to := range []api.Addr{addr(1), addr(2), addr(4), addr(5), addr(-1), {}, {Group: 2}, {Group: 8}, {Group: 9}, {Group: -1}} {
		bad(func(m *api.Msg) { m.To = to })
	}
	for _, from := range []api.Addr{own, addr(3), addr(4), addr(5), addr(-1), {Replica: 1}, {Group: 2, Replica: 1}, {Group: 8, Replica: 1}, {Group: 9, Replica: 1}} {
		bad(func(m *api.Msg) { m.From = from })
	}
	for _, no := range []api.Ballot{ballot(-1, 1), ballot(latest+1, 1), ballot(9, -1), ballot(9, 5)} {
		bad(func(m *api.Msg) { m.Ballot = no })
	}
	for _, no := range []int64{-1, latest + 1, math.MinInt64, math.MaxInt64} {
		bad(func(m *api.Msg) { m.Slot = no })
	}
	// Fields that the Kind does not have, and some that are missing.
	bad(func(m *api.Msg) { m.Entry = named(1) })
	bad(func(m *api.Msg) { m.List = run(0, 1, b) })
	bad(func(m *api.Msg) { m.Number = 1 })
	bad(func(m *api.Msg) { m.Part = api.Part{Many: 1} })
	for _, m := range []api.Msg{
		{Kind: api.MsAccept, Ballot: b},
		{Kind: api.MsAccept, Ballot: b, List: run(0, 2, b)},
		{Kind: api.MsAccept, Ballot: b, List: listOf(with(-1, b, named(1)))},
		{Kind: api.MsAccept, Ballot: b, List: listOf(with(0, b, noEntries()[0]))},
		{Kind: api.MsChosen},
		{Kind: api.MsChosen, List: run(0, longestList+1, b)},
		{Kind: api.MsPromise, Ballot: b, List: run(0, longestList+1, ballot(1, 1))},
		{Kind: api.MsForward, Entry: noEntries()[1]},
		{Kind: api.MsRefuse, Ballot: b, Slot: 1},
		{Kind: api.MsAsk, Slot: 1, Ballot: b},
		state(60, 2, 2, "half"), state(60, -1, 2, "half"), state(60, 0, 0, ""), state(latest+1, 1, 2, "half"),
		state(60, 1, longestList+1, "half"), state(60, 1, 2, string(make([]byte, partBytes+1))),
	} {
		m.From, m.To = zero, own
		l = append(l, m)
	}
	return l
}

func TestMessagesThatAreRefused(t *testing.T) {
	for name, make := range states() {
		wantUnchanged(t, name, make, func(o *one) {
			for _, m := range noMessages() {
				o.refusedStep(m, api.ErrMessage)
			}
		})
	}
}

// TestMessagesThatAreRefusedByABrokenOne: ErrMessage is told ahead of what the store says.
func TestMessagesThatAreRefusedByABrokenOne(t *testing.T) {
	o := fresh(t, 0, 3)
	o.breakStore()
	for _, m := range noMessages() {
		o.refusedStep(m, api.ErrMessage)
	}
}

// TestOneAloneTakesNoMessage: there is none that one could come from.
func TestOneAloneTakesNoMessage(t *testing.T) {
	o := fresh(t, 0, 1)
	for from := range 5 {
		o.refusedStep(o.in(from, beat(ballot(1, 0), 0)), api.ErrMessage)
		o.refusedStep(o.in(from, chosen(plain(0, named(1)))), api.ErrMessage)
	}
	o.wantUpto(0)
	o.wantNoLeader()
}

// TestWhoMaySpeak: all others of the group, whatever their number.
func TestWhoMaySpeak(t *testing.T) {
	for n := 1; n <= 5; n++ {
		for self := range n {
			for from := range 6 {
				o := fresh(t, self, n)
				m := o.in(from, chosen(plain(0, named(1))))
				if from == self || from >= n {
					o.refusedStep(m, api.ErrMessage)
					o.wantUpto(0)
					continue
				}
				o.step(m)
				o.wantUpto(1)
			}
		}
	}
}

// TestProposalsThatAreRefusedChangeNothing: R2 for Propose and Checkpoint, as far as nothing else is said.
func TestProposalsThatAreRefusedChangeNothing(t *testing.T) {
	for name, make := range states() {
		wantUnchanged(t, name, make, func(o *one) {
			for _, e := range noEntries() {
				o.refusedPropose(e, api.ErrField)
			}
			if o.Role() == api.RoleLead {
				o.refusedPropose(tooLong(), api.ErrArg)
			} else if _, known := o.Leader(); !known {
				o.refusedPropose(named(5), api.ErrLeader)
			}
			for _, slot := range []int64{o.Told() + 1, latest, latest + 1, math.MaxInt64} {
				wantErr(t, "Checkpoint", o.Checkpoint(slot, nil), api.ErrArg)
			}
			for _, slot := range []int64{o.Told(), 0, -1, math.MinInt64} {
				wantErr(t, "Checkpoint", o.Checkpoint(slot, nil), api.ErrSlot)
			}
		})
	}
}

// TestMessagesThatComeToNothing: of Kinds that may be, to replicas that have no use for them.
func TestMessagesThatComeToNothing(t *testing.T) {
	for name, make := range states() {
		wantUnchanged(t, name, make, func(o *one) {
			low := ballot(0, 3) // nobody's, and of a round that is not worth hearing of
			o.step(o.in(1, promise(low, 0, with(0, ballot(1, 1), named(1)))))
			o.step(o.in(1, accepted(low, 3)))
			o.step(o.in(1, refuse(low)))
			o.step(o.in(1, prepare(low, 60)))
			o.step(o.in(1, accept(low, 60, named(1))))
			o.step(o.in(1, ask(o.Upto())))
			o.step(o.in(1, ask(o.Upto()+1)))
			o.step(o.in(1, ask(latest)))
			o.step(o.in(1, state(o.Upto(), 0, 1, "x")))
			o.step(o.in(1, state(60, 0, 65, "x")))
			o.step(o.in(1, chosen(plain(7, named(1)), plain(7, named(1)))))
			o.step(o.in(1, chosen(plain(7, tooLong()))))
			if o.Role() != api.RoleLead {
				o.step(o.in(1, forward(named(1))))
			}
		})
	}
}
