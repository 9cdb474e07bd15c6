package proposer_test

import (
	"slices"
	"testing"

	"orchard/acceptor"
	"orchard/api"
	"orchard/proposer"
)

// P8.6 and P8.7 at random: one to five acceptors, several proposers and slots, messages in any order, lost and doubled.

const (
	prepareKind = iota
	promiseKind
	acceptKind
	acceptedKind
)

// message is on its way between a proposer and a replica.
type message struct {
	kind     int
	proposer int
	replica  int
	list     []api.Slotted
	slot     int64
}

// vote is who has accepted an entry for a slot with a ballot, as bits.
type vote struct {
	entry int64
	who   int
}

type voteKey struct {
	ballot api.Ballot
	slot   int64
}

// chosen is what a majority has accepted for a slot, with which ballot first.
type chosen struct {
	entry  int64
	ballot api.Ballot
}

// group is a group's acceptors and proposers, and what is on its way among them; entries are told by their Length, EnNone is 0.
type group struct {
	s         *source
	from      int64
	acceptors []*acceptor.Acceptor
	proposers []*proposer.Proposer
	asked     []map[int64]int64 // by proposers: each slot's entry
	messages  []message
	votes     map[voteKey]vote
	chosen    map[int64]chosen
	put       int64
	takenOver int
	told      int
}

func newGroup(t *testing.T, s *source) *group {
	t.Helper()
	g := &group{s: s, from: int64(s.below(3)), votes: map[voteKey]vote{}, chosen: map[int64]chosen{}}
	n := 1 + s.below(most)
	for range n {
		g.acceptors = append(g.acceptors, acceptor.New())
	}
	var ballots []api.Ballot
	for i := range 3 * n {
		ballots = append(ballots, ballot(int64(1+i/n), i%n))
	}
	for _, b := range shuffled(s, ballots)[:min(len(ballots), 2+s.below(4))] {
		g.proposers = append(g.proposers, newOne(t, b, g.from, n))
		g.asked = append(g.asked, map[int64]int64{})
	}
	return g
}

func (g *group) send(l ...message) { g.messages = append(g.messages, l...) }

// stand asks all for their promises.
func (g *group) stand(i int) {
	for at := range g.acceptors {
		g.send(message{kind: prepareKind, proposer: i, replica: at})
	}
}

// ask asks those who have not accepted them yet for all entries that wait.
func (g *group) ask(i int) {
	for _, s := range g.proposers[i].Waiting() {
		for _, at := range g.proposers[i].Missing(s.Slot) {
			g.send(message{kind: acceptKind, proposer: i, replica: at, list: []api.Slotted{s}})
		}
	}
}

func (g *group) putOne(i int) {
	if len(g.asked[i]) > 6 {
		return
	}
	s, err := g.proposers[i].Put(named(g.put + 1))
	if err != api.OK {
		return
	}
	g.put++
	g.asked[i][s.Slot] = s.Entry.Length
	for at := range g.acceptors {
		g.send(message{kind: acceptKind, proposer: i, replica: at, list: []api.Slotted{s}})
	}
}

// forget lets a proposer go of all that is chosen up to the first slot that is not.
func (g *group) forget(t *testing.T, i int) {
	p := g.proposers[i]
	below := p.Next()
	if l := p.Waiting(); len(l) > 0 {
		below = l[0].Slot
	}
	if p.Ready() {
		wantErr(t, "Forget", p.Forget(below), api.OK)
	}
}

// arrive: a message comes; now and then it is lost, or comes once more later.
func (g *group) arrive(t *testing.T) {
	if len(g.messages) == 0 {
		return
	}
	at := g.s.below(len(g.messages))
	m := g.messages[at]
	if g.s.below(4) != 0 {
		g.messages = slices.Delete(g.messages, at, at+1)
	}
	if g.s.below(8) == 0 {
		return
	}
	switch m.kind {
	case prepareKind:
		l, err := g.acceptors[m.replica].Prepare(g.proposers[m.proposer].Ballot(), g.from)
		if err == api.OK {
			g.send(message{kind: promiseKind, proposer: m.proposer, replica: m.replica, list: l})
		}
	case promiseKind:
		g.promise(m)
	case acceptKind:
		g.accept(t, m)
	case acceptedKind:
		g.accepted(t, m)
	}
}

func (g *group) promise(m message) {
	p := g.proposers[m.proposer]
	was := p.Ready()
	if yes, err := p.Promise(m.replica, m.list...); err != api.OK || !yes || was {
		return
	}
	for _, s := range p.Waiting() {
		g.asked[m.proposer][s.Slot] = s.Entry.Length
	}
	g.ask(m.proposer)
}

func (g *group) accept(t *testing.T, m message) {
	t.Helper()
	s := m.list[0]
	if g.acceptors[m.replica].Accept(s.Ballot, s.Slot, s.Entry) != api.OK {
		return
	}
	key := voteKey{s.Ballot, s.Slot}
	v := vote{s.Entry.Length, g.votes[key].who | 1<<m.replica}
	g.votes[key] = v
	g.send(message{kind: acceptedKind, proposer: m.proposer, replica: m.replica, slot: s.Slot})
	if !isMost(len(g.acceptors), v.who) {
		return
	}
	was, there := g.chosen[s.Slot]
	if there && was.entry != v.entry {
		t.Fatalf("the entries %d and %d are both chosen for slot %d", was.entry, v.entry, s.Slot)
	}
	if !there || below(s.Ballot, was.ballot) {
		g.chosen[s.Slot] = chosen{v.entry, s.Ballot}
	}
}

func (g *group) accepted(t *testing.T, m message) {
	t.Helper()
	p := g.proposers[m.proposer]
	if yes, err := p.Accepted(m.replica, m.slot); err != api.OK || !yes {
		return
	}
	g.told++
	e, is := p.Chosen(m.slot)
	if want, there := g.chosen[m.slot]; !is || !there || e.Length != want.entry {
		t.Fatalf("Chosen of %d: %v, %v, want %v, %v", m.slot, e, is, want, there)
	}
}

// judge: what is chosen is in its slot of each ready proposer with a greater ballot.
func (g *group) judge(t *testing.T) {
	t.Helper()
	for i, p := range g.proposers {
		if !p.Ready() {
			continue
		}
		for number, c := range g.chosen {
			if !below(c.ballot, p.Ballot()) {
				continue
			}
			if e, there := g.asked[i][number]; !there || e != c.entry {
				t.Fatalf("%d is chosen for slot %d with %v, and %v has %d there (%v)", c.entry, number, c.ballot, p.Ballot(), e, there)
			}
			g.takenOver++
		}
	}
}

func (g *group) step(t *testing.T) {
	t.Helper()
	i := g.s.below(len(g.proposers))
	switch g.s.below(24) {
	case 0:
		g.stand(i)
	case 1:
		g.ask(i)
	case 2, 3:
		g.putOne(i)
	case 4:
		g.forget(t, i)
	default:
		g.arrive(t)
	}
}

func TestOneEntryIsChosenAtRandom(t *testing.T) {
	var choices, told, takenOver int
	for seed := range uint64(3000) {
		s := source(seed)
		g := newGroup(t, &s)
		for range 250 {
			g.step(t)
			g.judge(t)
		}
		choices += len(g.chosen)
		told += g.told
		takenOver += g.takenOver
	}
	if choices < 3000 || told < 3000 || takenOver < 3000 {
		t.Errorf("chosen %d, told %d, taken over %d: too few to tell anything", choices, told, takenOver)
	}
}
