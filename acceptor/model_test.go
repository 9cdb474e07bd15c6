package acceptor_test

import (
	"fmt"
	"math"
	"slices"
	"testing"

	"orchard/acceptor"
	"orchard/api"
)

// All of the chapter at once: acceptors that are driven at random, held against a plain telling of the chapter.

// model is the chapter's words, one by one; its list is in the order in which slots came.
type model struct {
	promised api.Ballot
	first    int64
	list     []api.Slotted
}

func (m *model) face() face { return face{m.promised, m.first, bySlots(m.list)} }

func (m *model) clone() *model { return &model{m.promised, m.first, slices.Clone(m.list)} }

func mayBe(b api.Ballot) bool {
	return b.Round >= 1 && b.Round <= 1<<40 && b.Replica >= 0 && b.Replica <= 4
}

func mayBeSlot(n int64) bool { return n >= 0 && n <= 1<<40 }

func modelFrom(x face) (*model, api.Errno) {
	if x.promised != (api.Ballot{}) && !mayBe(x.promised) || !mayBeSlot(x.first) {
		return nil, api.ErrArg
	}
	m := &model{promised: x.promised, first: x.first}
	for i, s := range x.accepted {
		if !mayBeSlot(s.Slot) || s.Slot < x.first || !mayBe(s.Ballot) || below(x.promised, s.Ballot) {
			return nil, api.ErrArg
		}
		for _, ahead := range x.accepted[:i] {
			if ahead.Slot == s.Slot {
				return nil, api.ErrTwice
			}
		}
		m.list = append(m.list, s)
	}
	return m, api.OK
}

func (m *model) prepare(b api.Ballot, begin int64) ([]api.Slotted, api.Errno) {
	if !mayBe(b) || !mayBeSlot(begin) {
		return nil, api.ErrArg
	}
	if below(b, m.promised) {
		return nil, api.ErrLow
	}
	m.promised = b
	return bySlots(from(m.list, begin)), api.OK
}

func (m *model) accept(s api.Slotted) api.Errno {
	if !mayBe(s.Ballot) || !mayBeSlot(s.Slot) {
		return api.ErrArg
	}
	if below(s.Ballot, m.promised) {
		return api.ErrLow
	}
	if s.Slot < m.first {
		return api.ErrGone
	}
	m.promised = s.Ballot
	m.list = slices.DeleteFunc(m.list, func(old api.Slotted) bool { return old.Slot == s.Slot })
	m.list = append(m.list, s)
	return api.OK
}

func (m *model) forget(before int64) api.Errno {
	if !mayBeSlot(before) {
		return api.ErrArg
	}
	m.list = slices.DeleteFunc(m.list, func(old api.Slotted) bool { return old.Slot < before })
	m.first = max(m.first, before)
	return api.OK
}

// pair is an acceptor and its model.
type pair struct {
	s *source
	a *acceptor.Acceptor
	m *model
}

func someBallot(s *source) api.Ballot {
	switch k := s.below(60); {
	case k == 0:
		l := noBallots()
		return l[s.below(len(l))]
	case k == 1:
		return ballot(latest-int64(s.below(2)), s.below(replicas))
	}
	return ballot(1+int64(s.below(9)), s.below(replicas))
}

func someSlot(s *source) int64 {
	switch k := s.below(40); {
	case k == 0:
		l := noSlots()
		return l[s.below(len(l))]
	case k == 1:
		return latest - int64(s.below(2))
	}
	return int64(s.below(30))
}

// someState is a state that may be, or nearly.
func someState(s *source) face {
	x := face{promised: someBallot(s), first: someSlot(s)}
	if s.below(5) == 0 {
		x.promised = api.Ballot{}
	}
	for range s.below(6) {
		one := slotted(x.first+int64(s.below(40)), ballot(1, s.below(2)), sample(s.below(20)))
		if s.below(12) == 0 {
			one.Slot, one.Ballot = someSlot(s), someBallot(s)
		}
		x.accepted = append(x.accepted, one)
	}
	return x
}

// step does one thing to both; it tells what, and what both answered.
func (p *pair) step(t *testing.T) (string, api.Errno, api.Errno) {
	s := p.s
	b, slot, e := someBallot(s), someSlot(s), sample(s.below(20))
	if s.below(2) == 0 {
		b = p.m.promised
	}
	switch s.below(10) {
	case 0, 1, 2:
		what := fmt.Sprintf("Prepare(%v, %d)", b, slot)
		got, err := p.a.Prepare(b, slot)
		want, due := p.m.prepare(b, slot)
		wantList(t, what, got, want)
		return what, err, due
	case 3:
		slot = int64(s.below(9))
		return fmt.Sprintf("Forget(%d)", slot), p.a.Forget(slot), p.m.forget(slot)
	case 4:
		a, m := p.a.Clone(), p.m.clone()
		p.a.Accept(b, slot, e)
		p.a, p.m = a, m
		return "Clone", api.OK, api.OK
	case 5:
		x := someState(s)
		a, err := acceptor.From(x.promised, x.first, x.accepted)
		m, due := modelFrom(x)
		if err == api.OK && due == api.OK && s.below(4) == 0 {
			p.a, p.m = a, m
		}
		return fmt.Sprintf("From of %v", x), err, due
	}
	return fmt.Sprintf("Accept(%v, %d)", b, slot), p.a.Accept(b, slot, e), p.m.accept(slotted(slot, b, e))
}

func runAtRandom(t *testing.T, seed uint64, steps int) {
	t.Helper()
	s := source(seed)
	p := &pair{&s, newOne(t), &model{}}
	for i := range steps {
		step, got, want := p.step(t)
		what := fmt.Sprintf("seed %d, step %d: %s", seed, i, step)
		if got != want {
			t.Fatalf("%s: error %d, want %d", what, got, want)
		}
		wantFace(t, what, p.a, p.m.face())
		begin := someSlot(&s)
		wantList(t, what+": All", slices.Collect(p.a.All(begin)), from(bySlots(p.m.list), begin))
		if t.Failed() {
			t.FailNow()
		}
	}
	wantList(t, "All of the end", slices.Collect(p.a.All(math.MaxInt64)), nil)
}

func TestAcceptorsAtRandom(t *testing.T) {
	for seed := range uint64(300) {
		runAtRandom(t, seed, 60)
	}
}

func FuzzAcceptor(f *testing.F) {
	for seed := range uint64(10) {
		f.Add(seed)
	}
	f.Fuzz(func(t *testing.T, seed uint64) { runAtRandom(t, seed, 150) })
}
