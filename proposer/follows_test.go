package proposer_test

import (
	"math/bits"
	"slices"
	"testing"

	"orchard/acceptor"
	"orchard/api"
	"orchard/proposer"
)

// What follows: P8.6 and P8.7, over acceptors of chapter 7, for one slot, in every order; at random, for several slots, they stand in net_test.go.

// letter is a promise on its way to a proposer.
type letter struct {
	from int // the replica
	list []api.Slotted
	read bool
}

// asker is what came to a proposer, in its order: the proposer is made of it anew wherever it is asked.
type asker struct {
	ballot   api.Ballot
	own      int64 // its own entry for slot 0
	promises []letter
	accepted []int // the replicas whose word came that they have accepted
}

func (x asker) proposer(t *testing.T, n int) *proposer.Proposer {
	p := newOne(t, x.ballot, 0, n)
	for _, l := range x.promises {
		p.Promise(l.from, l.list...)
	}
	if p.Ready() && p.Next() == 0 {
		wantPut(t, "slot 0 is free", p, 0, named(x.own))
	}
	for _, replica := range x.accepted {
		p.Accepted(replica, 0)
	}
	return p
}

// scene is a group's acceptors, those who ask them, and what is on its way.
type scene struct {
	acceptors []*acceptor.Acceptor
	askers    []asker
	promises  [][]letter // by askers; what is on its way may come at any time, or never
	accepted  []int      // by askers: who has accepted slot 0 with its ballot, as bits
}

func newScene(n int, ballots ...api.Ballot) *scene {
	s := &scene{promises: make([][]letter, len(ballots)), accepted: make([]int, len(ballots))}
	for range n {
		s.acceptors = append(s.acceptors, acceptor.New())
	}
	for i, b := range ballots {
		s.askers = append(s.askers, asker{ballot: b, own: int64(i + 1)})
	}
	return s
}

// clone is a scene in which the acceptor at and the asker i may be changed.
func (s *scene) clone(i, at int) *scene {
	c := &scene{slices.Clone(s.acceptors), slices.Clone(s.askers), slices.Clone(s.promises), slices.Clone(s.accepted)}
	c.acceptors[at] = s.acceptors[at].Clone()
	c.askers[i].promises = slices.Clip(c.askers[i].promises)
	c.askers[i].accepted = slices.Clip(c.askers[i].accepted)
	c.promises[i] = slices.Clone(c.promises[i])
	return c
}

// prepare: the asker i's MsPrepare comes to an acceptor.
func (s *scene) prepare(i, at int) {
	l, err := s.acceptors[at].Prepare(s.askers[i].ballot, 0)
	known := func(x letter) bool { return x.from == at && slices.EqualFunc(x.list, l, sameSlotted) }
	if err == api.OK && !slices.ContainsFunc(s.promises[i], known) {
		s.promises[i] = append(s.promises[i], letter{from: at, list: l})
	}
}

// read: a promise comes to the asker i.
func (s *scene) read(i, number int) {
	s.promises[i][number].read = true
	s.askers[i].promises = append(s.askers[i].promises, s.promises[i][number])
}

// accept: the asker i's MsAccept of slot 0 comes to an acceptor, and its answer comes back: if it were late, nobody else would see that.
func (s *scene) accept(i, at int, e api.Entry) {
	if s.acceptors[at].Accept(s.askers[i].ballot, 0, e) == api.OK && s.accepted[i]>>at&1 == 0 {
		s.accepted[i] |= 1 << at
		s.askers[i].accepted = append(s.askers[i].accepted, at)
	}
}

// entry is what the proposer has in slot 0, and whether it has anything there.
func entry(p *proposer.Proposer) (api.Entry, bool) {
	if e, chosen := p.Chosen(0); chosen {
		return e, true
	}
	if l := p.Waiting(); len(l) > 0 {
		return l[0].Entry, true
	}
	return api.Entry{}, false
}

// key tells two scenes apart, as far as it matters: what comes to a ready proposer no more changes what it asks for.
func (s *scene) key(t *testing.T) string {
	var b []byte
	put := func(x api.Ballot, e api.Entry) { b = append(b, byte(x.Round), byte(x.Replica), byte(e.Length)) }
	for _, a := range s.acceptors {
		x, _ := a.At(0)
		put(a.Promised(), api.Entry{})
		put(x.Ballot, x.Entry)
	}
	for i, x := range s.askers {
		if e, there := entry(x.proposer(t, len(s.acceptors))); there {
			b = append(b, 'r', byte(e.Length), byte(s.accepted[i]))
			continue
		}
		b = append(b, 'p')
		for at := range s.acceptors {
			for _, l := range s.promises[i] {
				if l.from == at {
					b = append(b, byte(at), byte(len(l.list)))
					for _, one := range l.list {
						put(one.Ballot, one.Entry)
					}
					if l.read {
						b = append(b, '!')
					}
				}
			}
		}
	}
	return string(b)
}

// next are the scenes that the coming of one more message makes of it.
func (s *scene) next(t *testing.T) []*scene {
	var l []*scene
	for i := range s.askers {
		p := s.askers[i].proposer(t, len(s.acceptors))
		e, asks := entry(p)
		for at := range s.acceptors {
			c := s.clone(i, at)
			c.prepare(i, at)
			l = append(l, c)
			if asks {
				c = s.clone(i, at)
				c.accept(i, at, e)
				l = append(l, c)
			}
		}
		for number, x := range s.promises[i] {
			if !x.read && !asks {
				c := s.clone(i, x.from)
				c.read(i, number)
				l = append(l, c)
			}
		}
	}
	return l
}

func isMost(n, who int) bool { return bits.OnesCount(uint(who)) >= half(n) }

// judge: no two entries are chosen, by what the acceptors did and by what the proposers tell; what is chosen is in its slot of each ready proposer with a greater ballot. It answers the entry that is chosen, or 0.
func (s *scene) judge(t *testing.T) int64 {
	t.Helper()
	n, chosen := len(s.acceptors), int64(0)
	one := func(e api.Entry) {
		if chosen != 0 && chosen != e.Length {
			t.Fatalf("the entries %d and %d are both chosen: %s", chosen, e.Length, s.key(t))
		}
		chosen = e.Length
	}
	proposers := make([]*proposer.Proposer, len(s.askers))
	for i, x := range s.askers {
		p := x.proposer(t, n)
		proposers[i] = p
		e, there := entry(p)
		if there && isMost(n, s.accepted[i]) {
			one(e)
		}
		if told, is := p.Chosen(0); is {
			one(told)
			if !isMost(n, s.accepted[i]) {
				t.Fatalf("an entry is chosen that only %b have accepted", s.accepted[i])
			}
		}
	}
	for i, p := range proposers {
		for j, x := range s.askers {
			if e, there := entry(p); there && isMost(n, s.accepted[j]) && below(x.ballot, s.askers[i].ballot) && e.Length != chosen {
				t.Fatalf("%d is chosen, and %d is in its slot: %s", chosen, e.Length, s.key(t))
			}
		}
	}
	return chosen
}

// explore goes through every scene that comes of one, and answers the entries that are chosen in some of them.
func explore(t *testing.T, begin *scene) map[int64]bool {
	t.Helper()
	seen, everChosen := map[string]bool{begin.key(t): true}, map[int64]bool{}
	for work := []*scene{begin}; len(work) > 0; {
		s := work[len(work)-1]
		work = work[:len(work)-1]
		if e := s.judge(t); e != 0 {
			everChosen[e] = true
		}
		for _, c := range s.next(t) {
			if key := c.key(t); !seen[key] {
				seen[key] = true
				work = append(work, c)
			}
		}
	}
	return everChosen
}

// TestOneEntryIsChosenInEveryOrder: each order in which messages of two and three proposers may come to acceptors, any number of times or never, and promises back, once or never.
func TestOneEntryIsChosenInEveryOrder(t *testing.T) {
	for _, begin := range []*scene{
		newScene(1, ballot(1, 0), ballot(2, 0), ballot(3, 0)),
		newScene(2, ballot(1, 0), ballot(1, 1), ballot(2, 0)),
		newScene(3, ballot(1, 2), ballot(2, 0)),
		newScene(3, ballot(1, 1), ballot(1, 2), ballot(2, 0)),
	} {
		if l := explore(t, begin); len(l) != len(begin.askers) {
			t.Errorf("chosen in some order were %v, want each proposer's", l)
		}
	}
}

// P8.7, told plainly.

// subset are the replicas whose bits are in who.
func subset(n, who int) []int {
	var l []int
	for at := range n {
		if who>>at&1 == 1 {
			l = append(l, at)
		}
	}
	return l
}

// TestWhatAMajorityAcceptedIsInItsSlot: whichever majority accepted it, and whichever one promises, while the others have accepted something else with a lesser ballot.
func TestWhatAMajorityAcceptedIsInItsSlot(t *testing.T) {
	for n := 1; n <= most; n++ {
		for accepting := range 1 << n {
			for promising := range 1 << n {
				if isMost(n, accepting) && isMost(n, promising) {
					wantTakenOver(t, n, accepting, promising)
				}
			}
		}
	}
}

func wantTakenOver(t *testing.T, n, accepting, promising int) {
	t.Helper()
	for i := range samples() {
		p := newOne(t, ballot(3, 0), 7, n)
		var acceptors []*acceptor.Acceptor
		for at := range n {
			a := acceptor.New()
			wantErr(t, "a lesser ballot", a.Accept(ballot(1, 4), 8, named(int64(at+1))), api.OK)
			if accepting>>at&1 == 1 {
				wantErr(t, "the majority's", a.Accept(ballot(2, 0), 8, sample(i)), api.OK)
			}
			acceptors = append(acceptors, a)
		}
		for _, at := range subset(n, promising) {
			l, err := acceptors[at].Prepare(p.Ballot(), 7)
			wantErr(t, "Prepare", err, api.OK)
			if _, err := p.Promise(at, l...); err != api.OK {
				t.Errorf("Promise: error %d", err)
			}
		}
		want := []api.Slotted{slotted(7, ballot(3, 0), api.Entry{}), slotted(8, ballot(3, 0), sample(i))}
		if got := p.Waiting(); !slices.EqualFunc(got, want, sameSlotted) {
			t.Fatalf("%d replicas, %b accepted, %b promised: %+v, want %+v", n, accepting, promising, got, want)
		}
	}
}
