package proposer_test

import (
	"fmt"
	"math"
	"slices"
	"testing"

	"orchard/api"
	"orchard/proposer"
	"orchard/record"
)

// All of the chapter at once: proposers that are driven at random, held against a plain telling of the chapter.

// model is what was told to a proposer, in its order; all that it is asked is worked out of that.
type model struct {
	ballot    api.Ballot
	from      int64
	n         int
	promised  []int
	came      []api.Slotted // what counts
	put       []api.Entry
	accepted  [][2]int64 // a slot and a replica
	forgotten int64      // all slots below it are
}

func (m *model) ready() bool { return len(m.promised) >= half(m.n) }

// best is what came for a slot with the greatest ballot.
func (m *model) best(number int64) api.Entry {
	var best *api.Slotted
	for i, s := range m.came {
		if s.Slot == number && (best == nil || below(best.Ballot, s.Ballot)) {
			best = &m.came[i]
		}
	}
	if best == nil {
		return api.Entry{}
	}
	return best.Entry
}

// entries are those of all slots from from on, forgotten or not.
func (m *model) entries() []api.Entry {
	if !m.ready() {
		return nil
	}
	last := m.from - 1
	for _, s := range m.came {
		last = max(last, s.Slot)
	}
	var l []api.Entry
	for number := m.from; number <= last; number++ {
		l = append(l, m.best(number))
	}
	return append(l, m.put...)
}

func (m *model) next() int64 { return m.from + int64(len(m.entries())) }

func (m *model) hasEntry(number int64) bool {
	return number >= m.from && number >= m.forgotten && number < m.next()
}

func (m *model) missing(number int64) []int {
	var l []int
	for replica := range m.n {
		if !slices.Contains(m.accepted, [2]int64{number, int64(replica)}) {
			l = append(l, replica)
		}
	}
	return l
}

func (m *model) chosen(number int64) bool { return m.n-len(m.missing(number)) >= half(m.n) }

func (m *model) face() face {
	x := face{m.ballot, m.ready(), m.next(), nil}
	for i, e := range m.entries() {
		if number := m.from + int64(i); number >= m.forgotten {
			x.slots = append(x.slots, slot{number, e, m.chosen(number), m.missing(number)})
		}
	}
	return x
}

func (m *model) judge(replica int, l []api.Slotted) api.Errno {
	if replica < 0 || replica >= m.n {
		return api.ErrArg
	}
	for i, s := range l {
		twice := slices.ContainsFunc(l[:i], func(x api.Slotted) bool { return x.Slot == s.Slot })
		if s.Slot < m.from || s.Slot > latest || !below(s.Ballot, m.ballot) || twice {
			return api.ErrArg
		}
	}
	for _, s := range l {
		if s.Slot > m.from+gap {
			return api.ErrLong
		}
	}
	for _, s := range l {
		if record.CheckEntry(s.Entry) != api.OK {
			return api.ErrField
		}
	}
	if slices.Contains(m.promised, replica) {
		return api.ErrTwice
	}
	return api.OK
}

func (m *model) promise(replica int, l []api.Slotted) (bool, api.Errno) {
	if err := m.judge(replica, l); err != api.OK {
		return false, err
	}
	if !m.ready() {
		m.came = append(m.came, l...)
	}
	m.promised = append(m.promised, replica)
	return m.ready(), api.OK
}

func (m *model) putOne(e api.Entry) (api.Slotted, api.Errno) {
	if record.CheckEntry(e) != api.OK {
		return api.Slotted{}, api.ErrField
	}
	if !m.ready() {
		return api.Slotted{}, api.ErrReady
	}
	if m.next() > latest {
		return api.Slotted{}, api.ErrLong
	}
	s := slotted(m.next(), m.ballot, e)
	m.put = append(m.put, e)
	return s, api.OK
}

func (m *model) accept(replica int, number int64) (bool, api.Errno) {
	if replica < 0 || replica >= m.n {
		return false, api.ErrArg
	}
	if !m.hasEntry(number) {
		return false, api.ErrNone
	}
	if !slices.Contains(m.missing(number), replica) {
		return false, api.ErrTwice
	}
	was := m.chosen(number)
	m.accepted = append(m.accepted, [2]int64{number, int64(replica)})
	return m.chosen(number) && !was, api.OK
}

func (m *model) forget(before int64) api.Errno {
	if !m.ready() {
		return api.ErrReady
	}
	for number := m.from; number < m.next() && number < before; number++ {
		if m.hasEntry(number) && !m.chosen(number) {
			return api.ErrArg
		}
	}
	if before > m.next() {
		return api.ErrArg
	}
	m.forgotten = max(m.forgotten, before)
	return api.OK
}

// pair is a proposer and its model.
type pair struct {
	s *source
	p *proposer.Proposer
	m *model
}

func newPair(t *testing.T, s *source) *pair {
	t.Helper()
	m := &model{ballot: ballot(1+int64(s.below(6)), 0), from: int64(s.below(20)), n: 1 + s.below(most)}
	m.ballot.Replica = s.below(m.n)
	if s.below(5) == 0 {
		m.from = latest - int64(s.below(9))
	}
	return &pair{s, newOne(t, m.ballot, m.from, m.n), m}
}

func (x *pair) someReplica() int {
	if x.s.below(30) == 0 {
		return []int{-1, x.m.n, math.MinInt, math.MaxInt}[x.s.below(4)]
	}
	return x.s.below(x.m.n)
}

// someSlot is one that has an entry, or nearly.
func (x *pair) someSlot() int64 {
	if x.s.below(30) == 0 {
		return []int64{-1, latest, latest + 1, math.MinInt64, math.MaxInt64, x.m.from + gap, x.m.from + gap + 1}[x.s.below(7)]
	}
	return x.m.from - 1 + int64(x.s.below(int(x.m.next()-x.m.from)+3))
}

func (x *pair) someEntry() api.Entry {
	if x.s.below(15) == 0 {
		l := refused()
		return l[x.s.below(len(l))]
	}
	return sample(x.s.below(20))
}

// someList may come, or nearly.
func (x *pair) someList() []api.Slotted {
	s, m := x.s, x.m
	var l []api.Slotted
	for _, above := range shuffled(s, []int64{0, 1, 2, 3, 4, 5, 6, 7})[:s.below(5)] {
		one := slotted(min(m.from+above, latest), ballot(int64(s.below(int(m.ballot.Round))), s.below(most)), sample(s.below(20)))
		switch s.below(60) {
		case 0:
			one.Slot = x.someSlot()
		case 1:
			one.Ballot = []api.Ballot{m.ballot, ballot(m.ballot.Round, m.ballot.Replica-1), ballot(m.ballot.Round, m.ballot.Replica+1)}[s.below(3)]
		case 2:
			one.Entry = x.someEntry()
		case 3:
			one.Slot = m.from + gap + 1 + int64(s.below(2))
		}
		l = append(l, one)
	}
	return l
}

// step does one thing to both; it tells what, and what both answered.
func (x *pair) step() (what string, got, want any) {
	s := x.s
	replica, number := x.someReplica(), x.someSlot()
	switch s.below(12) {
	case 0, 1:
		l := x.someList()
		yes, err := x.p.Promise(replica, l...)
		due, dueErr := x.m.promise(replica, l)
		return fmt.Sprintf("Promise(%d, %v)", replica, l), fmt.Sprint(yes, err), fmt.Sprint(due, dueErr)
	case 2, 3:
		e := x.someEntry()
		one, err := x.p.Put(e)
		due, dueErr := x.m.putOne(e)
		one.Entry, due.Entry = plain(one.Entry), plain(due.Entry)
		return fmt.Sprintf("Put(%v)", e), fmt.Sprint(one, err), fmt.Sprint(due, dueErr)
	case 4:
		return fmt.Sprintf("Forget(%d)", number), x.p.Forget(number), x.m.forget(number)
	}
	yes, err := x.p.Accepted(replica, number)
	due, dueErr := x.m.accept(replica, number)
	return fmt.Sprintf("Accepted(%d, %d)", replica, number), fmt.Sprint(yes, err), fmt.Sprint(due, dueErr)
}

func runAtRandom(t *testing.T, seed uint64, steps int) {
	t.Helper()
	s := source(seed)
	x := newPair(t, &s)
	for i := range steps {
		step, got, want := x.step()
		what := fmt.Sprintf("seed %d, step %d: %s", seed, i, step)
		if got != want {
			t.Fatalf("%s: %v, want %v", what, got, want)
		}
		if x.m.next()-x.m.from > 100 { // the farthest slot came: all are looked at once, and that is enough
			wantFace(t, what, x.p, x.m.from, x.m.face())
			return
		}
		wantFace(t, what, x.p, x.m.from, x.m.face())
		if t.Failed() {
			t.FailNow()
		}
	}
}

func TestProposersAtRandom(t *testing.T) {
	for seed := range uint64(400) {
		runAtRandom(t, seed, 80)
	}
}

func FuzzProposer(f *testing.F) {
	for seed := range uint64(10) {
		f.Add(seed)
	}
	f.Fuzz(func(t *testing.T, seed uint64) { runAtRandom(t, seed, 150) })
}
