package exchange_test

import (
	"fmt"
	"testing"

	"orchard/api"
	"orchard/exchange"
	"orchard/record"
)

// What follows: P16.7 and P16.8.

// P16.7.

// wantNoGaps: what Take answers is a piece of ops from the next number on, rises, and is taken again.
func wantNoGaps(t *testing.T, what string, s api.Snap, origin int, seq int64, ops []api.Op) {
	t.Helper()
	got := exchange.Take(s, origin, seq, ops...)
	if len(got) == 0 {
		return
	}
	next := s.Vector[origin]
	if seq > next || next-seq+int64(len(got)) > int64(len(ops)) {
		t.Fatalf("%s: of %d operations from %d on %d are answered from %d on", what, len(ops), seq, len(got), next)
	}
	wantOps(t, what, got, ops[next-seq:next-seq+int64(len(got))])
	last := max(s.Last[origin], s.Frontier)
	for _, x := range got {
		if x.Stamp.Time <= last || x.Stamp.Site != origin {
			t.Errorf("%s: the stamp %v comes behind the time %d", what, x.Stamp, last)
		}
		last = x.Stamp.Time
	}
	wantTake(t, what+", again", s, origin, next, got, got)
}

// eachList goes through all lists of up to most of these operations.
func eachList(choices []api.Op, most int, yield func(l []api.Op)) {
	lists := [][]api.Op{nil}
	for range most + 1 {
		var longer [][]api.Op
		for _, l := range lists {
			yield(l)
			for _, x := range choices {
				longer = append(longer, append(l[:len(l):len(l)], x))
			}
		}
		lists = longer
	}
}

// TestWithoutGaps: every list of up to three of six operations, two of which do not count, in small states of all kinds.
func TestWithoutGaps(t *testing.T) {
	choices := append(opsAt(2, 1, 2, 3, 4), op(4, 1), noOps(4, 2)[0])
	eachList(choices, 3, func(l []api.Op) {
		for n := range 3 * 3 * 3 * 3 * 4 {
			s := having(2, int64(n%3), int64(n/3%3))
			s.Frontier = int64(n / 9 % 3)
			if seal := n / 81; seal < 3 {
				s.Epoch.States[2], s.Epoch.Seals[2] = siteRetired, int64(seal+1)
			}
			wantNoGaps(t, fmt.Sprintf("state %d", n), s, 2, int64(n/27%3), l)
		}
	})
}

// P16.8.

// history are all operations that sites have done, of each in their order.
type history [sites][]api.Op

func someHistory(s *source) *history {
	var h history
	for site := range h {
		time := int64(s.below(30))
		for range s.below(50) {
			time += int64(1 + s.below(3))
			h[site] = append(h[site], oneOf(s, []api.Op{op(time, site), attr(time, site)}))
		}
	}
	return &h
}

// some is a vector of at most as much as v has.
func some(s *source, v api.Vector) api.Vector {
	for site := range v {
		v[site] = int64(s.below(int(v[site]) + 1))
	}
	return v
}

func (h *history) all() api.Vector {
	var v api.Vector
	for site := range h {
		v[site] = int64(len(h[site]))
	}
	return v
}

// stateOf is the state of a site that has so many of each, and keeps those from starts on.
func (h *history) stateOf(site int, has, starts api.Vector) api.Snap {
	s := knowing()
	s.Site, s.Vector, s.Starts = site, has, starts
	for o, ops := range h {
		s.Kept[o] = ops[starts[o]:has[o]]
		if has[o] > 0 {
			s.Last[o] = ops[has[o]-1].Stamp.Time
		}
	}
	return s
}

// frontierBelow is a time below all that may come to what has so many of each.
func (h *history) frontierBelow(s *source, has api.Vector) int64 {
	least := int64(latest)
	for o, ops := range h {
		if has[o] < int64(len(ops)) {
			least = min(least, ops[has[o]].Stamp.Time)
		}
	}
	return least - int64(1+s.below(3))
}

// take gives a state what a message says; it is how many operations it took.
func (h *history) take(t *testing.T, what string, s *api.Snap, m api.Msg) int {
	t.Helper()
	if err := record.CheckMsg(m); err != api.OK {
		t.Fatalf("%s: the message is refused: %d", what, err)
	}
	e, is := exchange.Entry(m)
	if !is || e.Kind != api.EnRemote {
		t.Fatalf("%s: the message becomes %v, %v", what, e, is)
	}
	l := exchange.Take(*s, e.Origin, e.Seq, e.Ops...)
	if exchange.Useful(*s, e) != (len(l) > 0) {
		t.Errorf("%s: Useful is %v, and %d are taken", what, len(l) == 0, len(l))
	}
	if len(l) == 0 {
		return 0
	}
	o := e.Origin
	wantOps(t, what, l, h[o][s.Vector[o]:s.Vector[o]+int64(len(l))])
	s.Vector[o] += int64(len(l))
	s.Last[o] = l[len(l)-1].Stamp.Time
	s.Kept[o] = append(s.Kept[o][:len(s.Kept[o]):len(s.Kept[o])], l...)
	return len(l)
}

// someStates lets members be of any state but none, with seals around what they have done.
func someStates(s *source, h *history) api.Epoch {
	e := knowing().Epoch
	for site := range e.States {
		e.States[site] = 1 + s.below(3)
		e.Seals[site] = int64(s.below(len(h[site]) + 5))
	}
	return e
}

// upTo is the number up to which a site's operations count.
func upTo(e api.Epoch, site int) int64 {
	if e.States[site] == siteRetired {
		return e.Seals[site]
	}
	return latest
}

// TestItGetsThere: one push, and the other one has all that is kept from its numbers on, up to the seals.
func TestItGetsThere(t *testing.T) {
	for seed := range uint64(3000) {
		r := source(seed)
		h := someHistory(&r)
		from, to := r.below(sites), r.below(sites)
		has := some(&r, h.all())
		s := h.stateOf(from, has, some(&r, has))
		had := some(&r, h.all())
		had[to] = int64(len(h[to])) // it has all of itself
		x := h.stateOf(to, had, some(&r, had))
		x.Frontier = h.frontierBelow(&r, had)
		if r.below(2) == 0 {
			x.Epoch = someStates(&r, h)
		}
		s.Known[to] = had
		what := fmt.Sprintf("seed %d", seed)
		for m := range exchange.Push(s, at(from, 0), at(to, 1), plenty) {
			due := min(int64(len(m.Ops)), max(0, upTo(x.Epoch, m.Origin)-m.Slot))
			if n := h.take(t, what, &x, m); int64(n) != due {
				t.Errorf("%s: of %d operations of %d from %d on %d are taken, want %d", what, len(m.Ops), m.Origin, m.Slot, n, due)
			}
		}
		for o := range sites {
			want := had[o]
			if s.Starts[o] <= had[o] {
				want = max(had[o], min(has[o], upTo(x.Epoch, o)))
			}
			if x.Vector[o] != want {
				t.Errorf("%s: of %d it has %d, want %d", what, o, x.Vector[o], want)
			}
		}
		if t.Failed() {
			t.FailNow()
		}
	}
}

// TestItGetsThereInManyPushes: with any most above 0 each push brings as many as it may, till nothing is left.
func TestItGetsThereInManyPushes(t *testing.T) {
	for seed := range uint64(300) {
		r := source(seed)
		h := someHistory(&r)
		s := h.stateOf(0, h.all(), api.Vector{})
		had := some(&r, h.all())
		had[1] = int64(len(h[1]))
		x := h.stateOf(1, had, had)
		most := 1 + r.below(40)
		left := 0
		for o := range sites {
			left += int(s.Vector[o] - had[o])
		}
		for left > 0 {
			s.Known[1] = x.Vector
			took := 0
			for m := range exchange.Push(s, at(0, 0), at(1, 1), most) {
				took += h.take(t, fmt.Sprintf("seed %d", seed), &x, m)
			}
			if took != min(most, left) {
				t.Fatalf("seed %d: with most %d, when %d are left, %d are taken", seed, most, left, took)
			}
			left -= took
		}
		if x.Vector != s.Vector {
			t.Fatalf("seed %d: it has %v, want %v", seed, x.Vector, s.Vector)
		}
	}
}

// company are sites that tell one another what they have, and send one another what is lacking.
type company struct {
	h      *history
	states []api.Snap
}

// talk lets one site tell another one of itself, and send what that one lacks; each message may be lost.
func (c *company) talk(t *testing.T, r *source, from, to int) {
	t.Helper()
	s, x := &c.states[from], &c.states[to]
	m, err := exchange.Known(*s, at(from, 0), at(to, 0))
	e, is := exchange.Entry(m)
	if err != api.OK || !is {
		t.Fatalf("what %d knows becomes nothing: %d, %v", from, err, m)
	}
	news := s.Vector != x.Known[from]
	if exchange.Useful(*x, e) != news {
		t.Fatalf("that %d has %v is useful: %v, where %v was known", from, s.Vector, !news, x.Known[from])
	}
	if r.below(3) > 0 {
		x.Known[from] = e.Vector
	}
	for m := range exchange.Push(*s, at(from, 0), at(to, 0), 1+r.below(30)) {
		if r.below(3) > 0 {
			c.h.take(t, "told by another one", x, m)
		}
	}
}

// isDone tells whether all have the same, and know that of their peers.
func (c *company) isDone() bool {
	for _, s := range c.states {
		for _, site := range exchange.Peers(s) {
			if s.Vector != c.h.all() || s.Known[site] != s.Vector || exchange.Lacks(s, site) {
				return false
			}
		}
	}
	return true
}

// TestItComesTogether: each one begins with its own operations alone.
func TestItComesTogether(t *testing.T) {
	for seed := range uint64(30) {
		r := source(seed)
		c := &company{h: someHistory(&r)}
		for site := range sites {
			var has api.Vector
			has[site] = int64(len(c.h[site]))
			c.states = append(c.states, c.h.stateOf(site, has, api.Vector{}))
		}
		rounds := 0
		for ; !c.isDone() && rounds < 1000; rounds++ {
			for from := range c.states {
				for _, to := range exchange.Peers(c.states[from]) {
					c.talk(t, &r, from, to)
				}
			}
		}
		if !c.isDone() {
			t.Fatalf("seed %d: behind %d rounds they have not the same", seed, rounds)
		}
		for from, s := range c.states {
			for _, to := range exchange.Peers(s) {
				wantNoPush(t, "when all is told", s, at(from, 0), at(to, 0), plenty)
			}
		}
	}
}
