package exchange_test

import (
	"fmt"
	"math"
	"reflect"
	"slices"
	"testing"

	"orchard/api"
	"orchard/exchange"
	"orchard/record"
	"orchard/stamp"
)

// All of the chapter at once: states and calls at random, held against a plain telling of the chapter, number by number.

func isCount(n int64) bool { return 0 <= n && n <= 1<<40 }

func isAddr(a api.Addr) bool {
	return 0 <= a.Group && a.Group <= 8 && 0 <= a.Replica && a.Replica <= 4
}

// anyAbove tells whether some number of v is above that of w.
func anyAbove(v, w api.Vector) bool {
	for o := range v {
		if v[o] > w[o] {
			return true
		}
	}
	return false
}

// modelPush puts operation by operation into the last message, or into a new one.
func modelPush(s api.Snap, from, to api.Addr, most int) []api.Msg {
	if !isAddr(from) || !isAddr(to) || to.Group == 8 {
		return nil
	}
	var l []api.Msg
	sent := 0
	for o := range 8 {
		k, first := s.Known[to.Group][o], s.Starts[o]
		if !isCount(k) || !isCount(first) || k < first {
			continue
		}
		for i, x := range s.Kept[o] {
			number := first + int64(i)
			if number < k || sent >= most {
				continue
			}
			if len(l) == 0 || l[len(l)-1].Origin != o || len(l[len(l)-1].Ops) == 16 {
				l = append(l, push(s, from, to, o, number, nil))
			}
			m := &l[len(l)-1]
			m.Ops = append(m.Ops, x)
			sent++
		}
	}
	return l
}

func modelTake(s api.Snap, origin int, seq int64, ops []api.Op) []api.Op {
	if origin < 0 || origin > 7 || origin == s.Site || s.Epoch.States[origin] == 0 {
		return nil
	}
	have := s.Vector[origin]
	if seq < 0 || seq > have || have > 1<<40 {
		return nil
	}
	var l []api.Op
	last := s.Last[origin]
	for i, x := range ops {
		number := seq + int64(i)
		if number < have {
			continue
		}
		if number >= 1<<40 {
			break
		}
		if s.Epoch.States[origin] == 3 && number >= s.Epoch.Seals[origin] {
			break
		}
		if stamp.CheckOp(x) != api.OK || x.Stamp.Site != origin {
			break
		}
		if x.Stamp.Time <= last || x.Stamp.Time <= s.Frontier {
			break
		}
		l = append(l, x)
		last = x.Stamp.Time
	}
	return l
}

func modelUseful(s api.Snap, x api.Entry) bool {
	switch x.Kind {
	case 1, 5:
		return true
	case 2:
		return len(modelTake(s, x.Origin, x.Seq, x.Ops)) > 0
	case 3:
		return x.Epoch.Number > s.Epoch.Number
	case 4:
		if x.Seq != s.Epoch.Number || x.From < 0 || x.From > 7 || x.From == s.Site {
			return false
		}
		if state := s.Epoch.States[x.From]; state != 1 && state != 2 {
			return false
		}
		return anyAbove(x.Vector, s.Known[x.From]) || x.Clock > s.Clocks[x.From]
	}
	return false
}

func modelEntry(m api.Msg) (api.Entry, bool) {
	if record.CheckMsg(m) != api.OK {
		return api.Entry{}, false
	}
	group := m.From.Group
	switch {
	case m.Kind == 10 && group < 8:
		return api.Entry{Kind: 4, Seq: m.Number, From: group, Vector: m.Vector, Clock: m.Clock}, true
	case m.Kind == 11 && group < 8:
		return api.Entry{Kind: 2, Origin: m.Origin, Seq: m.Slot, Ops: m.Ops}, true
	case m.Kind == 12:
		return api.Entry{Kind: 3, Epoch: m.Epoch}, true
	case m.Kind == 13:
		return api.Entry{Kind: 5, Part: m.Part}, true
	}
	return api.Entry{}, false
}

// maker makes states and what they are asked for.
type maker struct{ source }

// edge is a number at an edge of anything.
func (r *maker) edge() int64 {
	return oneOf(&r.source, append(noCounts(), 0, 1, latest-17, latest-16, latest-1, latest))
}

// number is a small one, mostly, or one near the last count.
func (r *maker) number() int64 {
	switch k := r.below(60); {
	case k == 0:
		return r.edge()
	case k < 6:
		return latest - int64(r.below(20))
	}
	return int64(r.below(12))
}

func (r *maker) vector() api.Vector {
	var v api.Vector
	for o := range v {
		v[o] = r.number()
	}
	return v
}

// site is one, mostly.
func (r *maker) site() int {
	if r.below(20) == 0 {
		return oneOf(&r.source, noSites())
	}
	return r.below(sites)
}

func (r *maker) addr() api.Addr {
	if r.below(30) == 0 {
		return oneOf(&r.source, noAddrs())
	}
	return at(r.below(9), r.below(5))
}

// time is one of few, so that they come near those of others.
func (r *maker) time() int64 {
	if r.below(30) == 0 {
		return r.edge()
	}
	return int64(r.below(15))
}

// ops are operations of a site that rise from a time on, mostly.
func (r *maker) ops(site int, time int64, most int) []api.Op {
	var l []api.Op
	for range r.below(most + 1) {
		time += int64(1 + r.below(3))
		x := oneOf(&r.source, []api.Op{op(time, site), attr(time, site)})
		switch r.below(40) {
		case 0:
			x = oneOf(&r.source, noOps(time, site))
		case 1:
			x = op(time, r.site())
		case 2:
			x = op(r.time(), site)
		}
		l = append(l, x)
	}
	return l
}

func (r *maker) epoch() api.Epoch {
	e := api.Epoch{Number: oneOf(&r.source, []int64{4, 5, 6, r.edge()}), Seals: r.vector()}
	for site := range e.States {
		e.States[site] = r.below(4)
		if r.below(30) == 0 {
			e.States[site] = oneOf(&r.source, []int{-1, 4, math.MaxInt})
		}
	}
	return e
}

func (r *maker) state() api.Snap {
	s := api.Snap{Site: r.site(), Epoch: r.epoch(), Clock: r.number(), Vector: r.vector(), Frontier: r.time(), Starts: r.vector(), Clocks: r.vector()}
	for o := range sites {
		s.Last[o] = r.time()
		s.Known[o] = r.vector()
		s.Kept[o] = r.ops(o, r.time(), oneOf(&r.source, []int{0, 3, 17, 40}))
		if r.below(3) > 0 { // near what is kept
			for site := range sites {
				s.Known[site][o] = s.Starts[o] + int64(r.below(20))
			}
		}
	}
	return s
}

// entry is one that may bring a state something.
func (r *maker) entry(s api.Snap) api.Entry {
	kind := r.below(11) - 1
	if r.below(3) > 0 {
		kind = 2 + r.below(3)
	}
	x := api.Entry{Kind: kind, From: r.site(), Clock: r.number(), Epoch: r.epoch(), Origin: r.site()}
	x.Seq = oneOf(&r.source, []int64{s.Epoch.Number, s.Epoch.Number, r.number()})
	x.Vector = r.vector()
	if x.From >= 0 && x.From < sites && r.below(3) > 0 { // as it was known, or nearly
		x.Vector, x.Clock = s.Known[x.From], s.Clocks[x.From]+int64(r.below(4))/3
		x.Vector[r.below(sites)] += int64(r.below(4)) - 2
	}
	if x.Kind == 2 {
		x.Seq, x.Ops = r.piece(s, x.Origin)
	}
	return x
}

// piece are operations of an origin that come to a state, and their first one's number: most of the time near the next one.
func (r *maker) piece(s api.Snap, origin int) (int64, []api.Op) {
	if origin < 0 || origin >= sites || r.below(8) == 0 {
		return r.number(), r.ops(origin, r.time(), 20)
	}
	back := int64(r.below(5))
	return s.Vector[origin] - back, r.ops(origin, max(s.Last[origin], s.Frontier)-2*back, 20)
}

// message is one of those that sites send, or nearly.
func (r *maker) message(s api.Snap) api.Msg {
	m := oneOf(&r.source, others())
	switch r.below(5) {
	case 0:
		m, _ = exchange.Known(s, r.addr(), r.addr())
	case 1:
		for one := range exchange.Push(s, r.addr(), at(r.below(sites), 0), plenty) {
			m = one
			if r.below(3) == 0 {
				break
			}
		}
	case 2:
		m = oneOf(&r.source, sentWith(r.addr(), int64(r.below(9)), 1+r.below(20), "data")).m
	case 3:
		m.From = r.addr()
	}
	return m
}

// wantAsModel: one state, and calls of all kinds.
func wantAsModel(t *testing.T, what string, r *maker) {
	t.Helper()
	s := r.state()
	before := cloneState(s)
	var peers []int
	for o, state := range s.Epoch.States {
		if o != s.Site && (state == 1 || state == 2) {
			peers = append(peers, o)
		}
	}
	wantPeers(t, what, s, peers...)
	site := r.site()
	wantLacks(t, what, s, site, site >= 0 && site < 8 && anyAbove(s.Known[site], s.Vector))
	from, to := r.addr(), r.addr()
	if isAddr(from) && isAddr(to) {
		wantKnown(t, what, s, from, to)
	} else {
		wantNoKnown(t, what, s, from, to)
	}
	most := oneOf(&r.source, []int{plenty, plenty, r.below(200), r.below(20), int(r.edge())})
	wantPush(t, what, s, from, to, most, modelPush(s, from, to, most))
	for range 4 {
		origin := r.site()
		seq, ops := r.piece(s, origin)
		wantTake(t, what, s, origin, seq, ops, modelTake(s, origin, seq, ops))
		wantNoGaps(t, what, s, origin, seq, ops)
		x := r.entry(s)
		wantUseful(t, what, s, x, modelUseful(s, x))
		m := r.message(s)
		if e, is := modelEntry(m); is {
			wantEntry(t, what, m, e)
		} else {
			wantNoEntry(t, what, m)
		}
	}
	if !reflect.DeepEqual(s, before) {
		t.Errorf("%s: the state has changed", what)
	}
}

func runAtRandom(t *testing.T, seed uint64, states int) {
	t.Helper()
	r := &maker{source(seed)}
	for i := range states {
		wantAsModel(t, fmt.Sprintf("seed %d, state %d", seed, i), r)
		if t.Failed() {
			t.FailNow()
		}
	}
}

func TestStatesAtRandom(t *testing.T) {
	for seed := range uint64(600) {
		runAtRandom(t, seed, 30)
	}
}

// TestRandomComesToAll: the random calls come to what the chapter tells apart.
func TestRandomComesToAll(t *testing.T) {
	r := &maker{source(1)}
	count := map[string]int{}
	for range 10_000 {
		s := r.state()
		x := r.entry(s)
		count[fmt.Sprint("Useful ", x.Kind, " ", modelUseful(s, x))]++
		m := r.message(s)
		_, is := modelEntry(m)
		count[fmt.Sprint("Entry ", m.Kind, " ", is)]++
		most := r.below(100)
		for _, m := range modelPush(s, r.addr(), r.addr(), most) {
			count[fmt.Sprint("Push ", len(m.Ops))]++
		}
		origin := r.site()
		seq, ops := r.piece(s, origin)
		count[fmt.Sprint("Take ", min(len(modelTake(s, origin, seq, ops)), 9))]++
	}
	for _, due := range []string{
		"Useful 1 true", "Useful 2 true", "Useful 2 false", "Useful 3 true", "Useful 3 false", "Useful 4 true", "Useful 4 false", "Useful 5 true", "Useful 6 false",
		"Entry 10 true", "Entry 10 false", "Entry 11 true", "Entry 11 false", "Entry 12 true", "Entry 12 false", "Entry 13 true", "Entry 13 false",
		"Push 1", "Push 15", "Push 16", "Take 0", "Take 1", "Take 9",
	} {
		if count[due] < 10 {
			t.Errorf("%s came %d times", due, count[due])
		}
	}
	if slices.Max([]int{count["Push 17"], count["Push 0"]}) > 0 {
		t.Error("the model tells messages of 0 or 17 operations")
	}
}

func FuzzExchange(f *testing.F) {
	for seed := range uint64(10) {
		f.Add(seed)
	}
	f.Fuzz(func(t *testing.T, seed uint64) { runAtRandom(t, seed, 20) })
}
