package acceptor_test

import (
	"cmp"
	"math/bits"
	"slices"
	"testing"

	"orchard/acceptor"
	"orchard/api"
)

// What follows: P7.4 and P7.5.

// below is the order of ballots, told anew.
func below(a, b api.Ballot) bool {
	return a.Round < b.Round || a.Round == b.Round && a.Replica < b.Replica
}

// P7.4.

func TestPromisedNeverFalls(t *testing.T) {
	for seed := range uint64(200) {
		s := source(seed)
		a := newOne(t)
		for range 100 {
			before := a.Promised()
			b := ballot(int64(s.below(6)), s.below(replicas+1))
			slot := int64(s.below(12)) - 1
			switch s.below(5) {
			case 0, 1:
				a.Prepare(b, slot)
			case 2, 3:
				a.Accept(b, slot, named(1))
			case 4:
				a.Forget(slot)
			}
			if below(a.Promised(), before) {
				t.Fatalf("seed %d: promised falls from %v to %v", seed, before, a.Promised())
			}
		}
	}
}

// wantNoLesser: no ballot below one is accepted or prepared, whatever the slot.
func wantNoLesser(t *testing.T, what string, a *acceptor.Acceptor, b api.Ballot) {
	t.Helper()
	for _, lesser := range rising() {
		if !below(lesser, b) {
			continue
		}
		for _, slot := range []int64{0, 3, 4, 50, latest} {
			wantNoAccept(t, what, a, lesser, slot, api.ErrLow)
		}
	}
}

// TestPromisesAreKept: whatever is asked between a promise and an Accept of a lesser ballot.
func TestPromisesAreKept(t *testing.T) {
	for _, b := range rising() {
		a := newOne(t)
		wantPrepare(t, "a promise", a, b, 3)
		wantNoLesser(t, "behind a promise", a, b)
		wantNoLesser(t, "of its clone", a.Clone(), b)
		wantAccept(t, "the same ballot", a, slotted(4, b, named(1)))
		wantNoLesser(t, "behind an Accept", a, b)
		wantErr(t, "Forget", a.Forget(50), api.OK)
		wantNoLesser(t, "behind a Forget", a, b)
		wantNoLesser(t, "of what is made from its state", made(t, look(t, a)), b)
		wantPrepare(t, "the same promise again", a, b, latest)
		wantNoLesser(t, "behind the same promise", a, b)
		wantPrepare(t, "a greater promise", a, ballot(latest, 4), latest)
		wantNoLesser(t, "behind a greater promise", a, b)
	}
}

// P7.5. Nothing is forgotten here: an acceptor that has forgotten a slot cannot tell what it accepted for it, and keeps only its own word, that it accepts nothing more there.

// vote is an entry, told by its number, with the ballot with which it was accepted.
type vote struct {
	ballot api.Ballot
	entry  int64
}

const asked = 8 // slots of which leaders speak

// leader keeps the leader's rule, for slots from from on.
type leader struct {
	ballot   api.Ballot
	from     int64
	answered int          // who has answered its Prepare: bits
	best     [asked]vote  // of each slot, what came with the greatest ballot
	put      [asked]int64 // of each slot, its entry, or 0: this ballot is for no other one
	accepted [asked]int   // of each slot, who has ever accepted it: bits
}

func lead(b api.Ballot, from int64) *leader { return &leader{ballot: b, from: from} }

// group is several acceptors, and those who ask them.
type group struct {
	acceptors []*acceptor.Acceptor
	leaders   []*leader
}

// clone is a group that may ask one acceptor for one leader without a trace in the first one.
func (g *group) clone(leader, at int) *group {
	c := &group{slices.Clone(g.acceptors), slices.Clone(g.leaders)}
	c.acceptors[at] = g.acceptors[at].Clone()
	l := *g.leaders[leader]
	c.leaders[leader] = &l
	return c
}

func (g *group) isMajority(who int) bool { return bits.OnesCount(uint(who)) > len(g.acceptors)/2 }

func (g *group) prepare(l *leader, at int) {
	answer, err := g.acceptors[at].Prepare(l.ballot, l.from)
	if err != api.OK {
		return
	}
	l.answered |= 1 << at
	for _, s := range answer {
		if below(l.best[s.Slot].ballot, s.Ballot) {
			l.best[s.Slot] = vote{s.Ballot, s.Entry.Request}
		}
	}
}

// accept asks for an entry for a slot: own, where the rule leaves it free.
func (g *group) accept(l *leader, at int, slot, own int64) {
	if !g.isMajority(l.answered) || slot < l.from {
		return
	}
	if l.put[slot] == 0 {
		l.put[slot] = cmp.Or(l.best[slot].entry, own)
	}
	if g.acceptors[at].Accept(l.ballot, slot, named(l.put[slot])) == api.OK {
		l.accepted[slot] |= 1 << at
	}
}

// chosen are the entries that more than half have accepted for a slot.
func (g *group) chosen(slot int64) []int64 {
	var l []int64
	for _, x := range g.leaders {
		if g.isMajority(x.accepted[slot]) && !slices.Contains(l, x.put[slot]) {
			l = append(l, x.put[slot])
		}
	}
	return l
}

func newGroup(t *testing.T, n int, leaders ...*leader) *group {
	t.Helper()
	g := &group{leaders: leaders}
	for range n {
		g.acceptors = append(g.acceptors, newOne(t))
	}
	return g
}

// key tells two groups apart, of one slot.
func (g *group) key() string {
	var b []byte
	for _, a := range g.acceptors {
		p := a.Promised()
		s, _ := a.At(0)
		b = append(b, byte(p.Round), byte(p.Replica), byte(s.Ballot.Round), byte(s.Ballot.Replica), byte(s.Entry.Request))
	}
	for _, l := range g.leaders {
		best := l.best[0].ballot
		b = append(b, byte(l.answered), byte(best.Round), byte(best.Replica), byte(l.put[0]), byte(l.accepted[0]))
	}
	return string(b)
}

// next are the groups that one more call of a leader's makes of it: whatever is lost or comes twice is among them.
func (g *group) next() []*group {
	var l []*group
	for i, x := range g.leaders {
		for at := range g.acceptors {
			c := g.clone(i, at)
			c.prepare(c.leaders[i], at)
			l = append(l, c)
			if g.isMajority(x.answered) {
				c = g.clone(i, at)
				c.accept(c.leaders[i], at, 0, int64(i+1))
				l = append(l, c)
			}
		}
	}
	return l
}

// TestOneEntryIsChosenInEveryOrder: each order in which three leaders may ask three acceptors.
func TestOneEntryIsChosenInEveryOrder(t *testing.T) {
	seen := map[string]bool{}
	everChosen := map[int64]bool{}
	work := []*group{newGroup(t, 3, lead(ballot(1, 0), 0), lead(ballot(1, 1), 0), lead(ballot(2, 0), 0))}
	for len(work) > 0 {
		g := work[len(work)-1]
		work = work[:len(work)-1]
		chosen := g.chosen(0)
		if len(chosen) > 1 {
			t.Fatalf("the entries %d are all chosen", chosen)
		}
		for _, e := range chosen {
			everChosen[e] = true
		}
		for _, c := range g.next() {
			if key := c.key(); !seen[key] {
				seen[key] = true
				work = append(work, c)
			}
		}
	}
	if len(everChosen) != 3 {
		t.Errorf("chosen in some order were %v, want each leader's", everChosen)
	}
}

// TestOneEntryIsChosenAtRandom: one to five acceptors, several slots, leaders with unlike ballots that ask from unlike slots on.
func TestOneEntryIsChosenAtRandom(t *testing.T) {
	for seed := range uint64(3000) {
		s := source(seed)
		var leaders []*leader
		for _, b := range shuffled(&s, rising())[:2+s.below(6)] {
			leaders = append(leaders, lead(b, int64(s.below(3))))
		}
		g := newGroup(t, 1+s.below(replicas), leaders...)
		for step := range 150 {
			i, at, slot := s.below(len(leaders)), s.below(len(g.acceptors)), int64(s.below(4))
			if s.below(5) < 2 {
				g.prepare(leaders[i], at)
			} else {
				g.accept(leaders[i], at, slot, int64(i+1))
			}
			for slot := range int64(4) {
				if l := g.chosen(slot); len(l) > 1 {
					t.Fatalf("seed %d, step %d: the entries %d are all chosen for slot %d", seed, step, l, slot)
				}
			}
		}
	}
}

// TestChosenIsTakenOver: an entry that was chosen is told to every leader that more than half answer.
func TestChosenIsTakenOver(t *testing.T) {
	for n := 1; n <= replicas; n++ {
		for first := range 1 << n {
			for second := range 1 << n {
				one, two := lead(ballot(1, 4), 0), lead(ballot(2, 0), 0)
				g := newGroup(t, n, one, two)
				if !g.isMajority(first) || !g.isMajority(second) {
					continue
				}
				for at := range n {
					if first>>at&1 == 1 {
						g.prepare(one, at)
					}
				}
				for at := range n {
					if first>>at&1 == 1 {
						g.accept(one, at, 7, 11)
					}
				}
				for at := range n {
					if second>>at&1 == 1 {
						g.prepare(two, at)
					}
				}
				if two.best[7] != (vote{ballot(1, 4), 11}) {
					t.Fatalf("%d acceptors, %b accepted, %b answer: %v", n, first, second, two.best[7])
				}
			}
		}
	}
}
