package replica_test

import (
	"strings"
	"testing"

	"orchard/api"
	"orchard/store"
)

// P10.4: MsPrepare.

func TestPromises(t *testing.T) {
	o := laid(t, 0, 3, func(s *store.Store) {
		s.Accept(ballot(1, 1), plain(0, sample(2)), plain(1, sample(5)))
		s.Accept(ballot(2, 2), plain(3, sample(1)))
		s.Choose(plain(0, sample(2)))
	})
	all := listOf(with(0, ballot(1, 1), sample(2)), with(1, ballot(1, 1), sample(5)), with(3, ballot(2, 2), sample(1)))
	b := ballot(3, 1)
	for slot, l := range [][]api.Slotted{all, all[1:], all[2:], all[2:], nil} {
		o.step(o.in(1, prepare(b, int64(slot))), o.out(1, promise(b, int64(slot), l...)))
	}
	o.step(o.in(1, prepare(b, latest)), o.out(1, promise(b, latest)))
	o.wantPromised(b)
	o.wantNoLeader() // who stands does not lead yet
	o.wantRole(api.RoleFollow)
	// It is on the disk, first.
	if a := o.again(); a.s.Promised() != b {
		t.Error("opened again, it has promised", a.s.Promised())
	}
	// To whom it is answered is who asks, whatever its ballot.
	o.step(o.in(2, prepare(ballot(4, 1), 4)), o.out(2, promise(ballot(4, 1), 4)))
}

func TestNoPromises(t *testing.T) {
	o := laid(t, 0, 5, func(s *store.Store) { s.Prepare(ballot(5, 2), 0) })
	before := files(o.d)
	for _, low := range []api.Ballot{ballot(5, 1), ballot(4, 4), ballot(1, 0)} {
		o.step(o.in(4, prepare(low, 0)), o.out(4, refuse(ballot(5, 2))))
	}
	o.step(o.in(4, prepare(ballot(0, 4), 0)))
	if files(o.d) != before {
		t.Error("the disk has changed")
	}
	o.step(o.in(4, prepare(ballot(5, 2), 0)), o.out(4, promise(ballot(5, 2), 0)))
	o.step(o.in(4, prepare(ballot(5, 3), 0)), o.out(4, promise(ballot(5, 3), 0)))
}

// TestGivingWay: one that stands or leads steps down before a greater ballot that it promises, and before no other.
func TestGivingWay(t *testing.T) {
	for _, leads := range []bool{false, true} {
		o := fresh(t, 1, 3)
		var b api.Ballot
		if leads {
			b = o.lead(1)
		} else {
			b = o.stand(1, 0)
		}
		role := o.Role()
		o.step(o.in(0, prepare(ballot(1, 0), 0)), o.out(0, refuse(b)))
		o.step(o.in(0, prepare(b, 0)), o.out(0, promise(b, 0)))
		o.wantRole(role)
		o.step(o.in(2, prepare(ballot(1, 2), 0)), o.out(2, promise(ballot(1, 2), 0)))
		o.wantRole(api.RoleFollow)
		if leads {
			o.wantLeader(b) // nobody has told of another one
		} else {
			o.wantNoLeader()
		}
		// It has no proposer any more.
		o.step(o.in(0, promise(b, 0)))
		o.step(o.in(2, promise(b, 0)))
		o.step(o.in(2, accepted(b, 0)))
		o.wantRole(api.RoleFollow)
		o.wantWait(0, 2)
	}
}

// TestItsOwnBallotEndsItsWait: of one that stands; also where it does not step down.
func TestItsOwnBallotEndsItsWait(t *testing.T) {
	o := fresh(t, 0, 3)
	b := o.stand(1, 0)
	o.quiet(3)
	o.step(o.in(1, prepare(b, 0)), o.out(1, promise(b, 0)))
	o.wantRole(api.RoleStand)
	o.wantWait(0, 2)
}

// TestLongPromises: a List of MaxList is sent; one that is longer is not, but it is promised.
func TestLongPromises(t *testing.T) {
	o := laid(t, 0, 3, func(s *store.Store) { s.Accept(ballot(1, 1), run(0, longestList+1, api.Ballot{})...) })
	l := run(0, longestList+1, ballot(1, 1))
	o.quiet(3)
	o.step(o.in(1, prepare(ballot(2, 1), 0)))
	o.wantPromised(ballot(2, 1))
	o.step(o.in(1, prepare(ballot(3, 1), 1)), o.out(1, promise(ballot(3, 1), 1, l[1:]...)))
	o.quiet(3)
	o.step(o.in(1, prepare(ballot(4, 1), 0)))
	o.wantPromised(ballot(4, 1))
	o.wantWait(0, 5)
	// Also one that stands gives way, if what it has is too long to be told.
	o.step(o.in(1, prepare(ballot(9, 1), 0)))
	o.wantRole(api.RoleFollow)
}

// cut are the messages by which a checkpoint is sent.
func (o *one) cut(to int, slot int64, data string) []api.Msg {
	var l []api.Msg
	many := max(1, (len(data)+partBytes-1)/partBytes)
	for i := range many {
		l = append(l, o.out(to, state(slot, i, many, data[i*partBytes:min(len(data), (i+1)*partBytes)])))
	}
	return l
}

// TestItSendsItsCheckpoint: to who asks below its First, by each Kind; in as many parts as it takes; nothing is promised, and nothing changes.
func TestItSendsItsCheckpoint(t *testing.T) {
	sizes := map[int]int{0: 1, 1: 1, partBytes - 1: 1, partBytes: 1, partBytes + 1: 2, 2 * partBytes: 2, 3*partBytes + 7: 4, longestState - 1: 32, longestState: 32}
	for size, many := range sizes {
		data := strings.Repeat("checkpoint ", size/11+1)[:size]
		o := laid(t, 1, 3, func(s *store.Store) {
			s.Install(5, []byte(data))
			s.Choose(run(5, 8, api.Ballot{})...)
		})
		o.quiet(3)
		want := o.cut(2, 5, data)
		if len(want) != many {
			t.Fatalf("%d bytes are cut into %d parts, want %d", size, len(want), many)
		}
		for slot := range int64(5) {
			o.step(o.in(2, prepare(ballot(7, 2), slot)), want...)
			o.step(o.in(2, accept(ballot(7, 2), slot, named(1))), want...)
			o.step(o.in(2, ask(slot)), want...)
		}
		o.wantPromised(api.Ballot{})
		o.wantNoLeader()
		// At First there is no need of it.
		o.step(o.in(2, ask(5)), o.out(2, chosen(run(5, 8, api.Ballot{})...)))
		o.step(o.in(2, ask(7)), o.out(2, chosen(run(7, 8, api.Ballot{})...)))
		o.quiet(2)
		o.tick(o.all(prepare(ballot(8, 1), 8))...)
		o.step(o.in(2, accept(ballot(9, 2), 5, named(6))), o.out(2, accepted(ballot(9, 2), 5)))
		o.step(o.in(2, prepare(ballot(9, 2), 5)), o.out(2, promise(ballot(9, 2), 5, with(5, ballot(9, 2), named(6)))))
	}
}

// TestLowAndBelowFirst: the checkpoint comes ahead of a refusal.
func TestLowAndBelowFirst(t *testing.T) {
	o := laid(t, 1, 3, func(s *store.Store) {
		s.Install(5, []byte("state"))
		s.Prepare(ballot(9, 1), 0)
	})
	for _, b := range []api.Ballot{ballot(1, 2), ballot(0, 2), ballot(10, 2)} {
		o.step(o.in(2, prepare(b, 4)), o.cut(2, 5, "state")...)
		o.step(o.in(2, accept(b, 4, named(1))), o.cut(2, 5, "state")...)
	}
	o.step(o.in(2, prepare(ballot(1, 2), 5)), o.out(2, refuse(ballot(9, 1))))
	o.step(o.in(2, accept(ballot(1, 2), 5, named(1))), o.out(2, refuse(ballot(9, 1))))
	o.wantPromised(ballot(9, 1))
}

// TestALeaderSendsItsCheckpoint: and leads on, whatever the ballot of who asks.
func TestALeaderSendsItsCheckpoint(t *testing.T) {
	o := laid(t, 0, 3, func(s *store.Store) { s.Install(5, []byte("state")) })
	b := o.lead(1)
	o.step(o.in(1, prepare(ballot(6, 1), 0)), o.cut(1, 5, "state")...)
	o.wantRole(api.RoleLead)
	o.wantLeader(b)
}
