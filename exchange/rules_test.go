package exchange_test

import (
	"fmt"
	"math"
	"reflect"
	"slices"
	"testing"
	"time"

	"orchard/api"
	"orchard/exchange"
	"orchard/record"
)

// R2: that with an error or a false nothing else is answered is asked beside each, in the tests of Known and Entry. R5 says nothing of exchange, since it makes no objects. Here: all arguments, states that are anything, what is shared, empty lists, the same again, and THE BOUND.

// R1.

// far are numbers far out of their range.
func far() []int64 {
	return []int64{math.MinInt64, math.MinInt64 + 1, -1, 0, latest, latest + 1, 1 << 62, math.MaxInt64 - 1, math.MaxInt64}
}

func all(n int64) api.Vector { return api.Vector{n, n, n, n, n, n, n, n} }

// anything is a state with one number everywhere.
func anything(n int64) api.Snap {
	s := api.Snap{Site: int(n), Applied: n, Clock: n, Vector: all(n), Last: all(n), Frontier: n, Starts: all(n), Told: all(n), Clocks: all(n), Sure: all(n)}
	s.Epoch = api.Epoch{Number: n, Seals: all(n)}
	for o := range sites {
		s.Known[o] = all(n)
		s.Epoch.States[o], s.Epoch.Sponsor[o] = int(n), int(n)
		s.Kept[o] = []api.Op{{Stamp: api.Stamp{Time: n, Site: int(n)}, Kind: int(n), Node: n, Parent: n}, op(1, o)}
	}
	return s
}

// TestAllArguments: each number in the place of each other one.
func TestAllArguments(t *testing.T) {
	for _, n := range far() {
		for _, m := range far() {
			s := anything(n)
			wantAnyCall(t, s, m)
			for o := range sites {
				s.Epoch.States[o] = 1 + o%3
			}
			wantAnyCall(t, s, m)
			s.Vector, s.Starts, s.Epoch.Seals = all(m), all(m), all(n)
			wantAnyCall(t, s, m)
			wantAnyCall(t, s, n)
			s.Last, s.Known, s.Frontier = all(m), [sites]api.Vector{all(m), all(m), all(n)}, m
			wantAnyCall(t, s, m)
		}
	}
}

// wantAnyCall: all calls of a state, with a number as each argument, answer as the chapter tells it.
func wantAnyCall(t *testing.T, s api.Snap, m int64) {
	t.Helper()
	what := fmt.Sprintf("a number %d", m)
	wantPeers(t, what, s, membersOf(s.Epoch.States, s.Site)...)
	wantNoKnown(t, what, s, at(int(m), 5), at(1, 1))
	wantKnown(t, what, s, at(2, 3), at(1, 1))
	ops := []api.Op{{Stamp: api.Stamp{Time: m, Site: int(m)}, Node: m, Parent: m}, op(9, 3), op(latest, 3)}
	for site := -1; site < 9; site++ {
		is := site >= 0 && site < sites
		wantLacks(t, what, s, site, is && anyAbove(s.Known[site], s.Vector))
		wantPush(t, what, s, at(0, 0), at(site, 1), int(m), modelPush(s, at(0, 0), at(site, 1), int(m)))
		wantPush(t, what, s, at(0, 0), at(site, 1), plenty, modelPush(s, at(0, 0), at(site, 1), plenty))
		for _, l := range [][]api.Op{ops, ops[1:], nil} {
			for _, seq := range []int64{m, m - 1, m + 1, 0} {
				wantTake(t, what, s, site, seq, l, modelTake(s, site, seq, l))
			}
		}
		for kind := range 10 {
			x := api.Entry{Kind: kind, From: site, Seq: m, Origin: site, Ops: ops, Vector: all(m), Clock: m, Epoch: api.Epoch{Number: m}}
			wantUseful(t, what, s, x, modelUseful(s, x))
		}
	}
	for kind := -1; kind < 17; kind++ {
		wantNoEntry(t, what, api.Msg{Kind: kind, From: at(int(m), 9), Number: m, Vector: all(m), Clock: m, Origin: int(m), Ops: ops, Slot: m})
	}
}

// R3.

// spoil writes to all of a list, up to its capacity.
func spoil(l []api.Op) {
	l = l[:cap(l)]
	for i := range l {
		l[i] = op(-1, -1)
	}
}

func spoilState(s api.Snap) {
	for o := range s.Kept {
		spoil(s.Kept[o])
	}
}

// cloneMsgs are messages in memory of their own.
func cloneMsgs(l []api.Msg) []api.Msg {
	l = slices.Clone(l)
	for i := range l {
		l[i] = record.CloneMsg(l[i])
	}
	return l
}

// TestPushTellsWhatWasThere: whatever is done to the state behind the asking, and in the midst of the telling.
func TestPushTellsWhatWasThere(t *testing.T) {
	for _, most := range []int{plenty, 50, 17, 1} {
		s := manyOrigins()
		want := cloneMsgs(modelPush(s, at(0, 1), at(4, 3), most))
		all := exchange.Push(s, at(0, 1), at(4, 3), most)
		spoilState(s)
		for range 3 {
			if got := slices.Collect(all); !sameMsgs(got, want) {
				t.Fatalf("most %d: behind a change of the state are told %v, want %v", most, lengths(got), lengths(want))
			}
		}
		for stop := range want {
			s = manyOrigins()
			all = exchange.Push(s, at(0, 1), at(4, 3), most)
			told := 0
			for m := range all {
				if told == stop {
					spoilState(s)
				}
				if !record.SameMsg(m, want[told]) {
					t.Errorf("most %d, changed at %d: number %d is another one", most, stop, told)
				}
				told++
			}
			if told != len(want) || !sameMsgs(slices.Collect(all), want) {
				t.Errorf("most %d, changed at %d: %d are told", most, stop, told)
			}
		}
	}
}

// TestWhatPushTellsIsNobodysElse: messages that are written to, up to their lists' capacities, change no other one, and not the state.
func TestWhatPushTellsIsNobodysElse(t *testing.T) {
	s := manyOrigins()
	before := cloneState(s)
	all := exchange.Push(s, at(0, 1), at(4, 3), plenty)
	want := cloneMsgs(modelPush(s, at(0, 1), at(4, 3), plenty))
	for range 3 {
		told := 0
		for m := range all {
			if !record.SameMsg(m, want[told]) {
				t.Errorf("number %d is another one", told)
			}
			spoil(m.Ops)
			told++
		}
	}
	got := slices.Collect(all)
	for i := range got {
		spoil(got[i].Ops)
		if !sameMsgs(got[i+1:], want[i+1:]) {
			t.Errorf("the messages behind number %d are changed with it", i)
		}
	}
	if !reflect.DeepEqual(s, before) {
		t.Error("the state has changed")
	}
}

// TestTwoPushesAtOnce: one that is gone through within the other one.
func TestTwoPushesAtOnce(t *testing.T) {
	s := manyOrigins()
	all := exchange.Push(s, at(0, 1), at(4, 3), plenty)
	want := modelPush(s, at(0, 1), at(4, 3), plenty)
	told := 0
	for m := range all {
		if !sameMsgs(slices.Collect(all), want) || !record.SameMsg(m, want[told]) {
			t.Errorf("within number %d others are told", told)
		}
		told++
	}
	if told != len(want) {
		t.Errorf("%d are told of %d", told, len(want))
	}
}

// TestTakeIsNobodysElse: of what was handed in, and of the answer, neither is the other one's.
func TestTakeIsNobodysElse(t *testing.T) {
	for back := range 3 {
		for bad := range 9 {
			s := having(2, 5, 20)
			ops := opsFrom(2, int64(21-back), 8)
			if bad < len(ops) {
				ops[bad].Kind = 9
			}
			want := modelTake(s, 2, int64(5-back), ops)
			handed := slices.Grow(slices.Clone(ops), 5)
			got := exchange.Take(s, 2, int64(5-back), handed...)
			spoil(handed)
			wantOps(t, "behind a change of what was handed in", got, want)
			handed = slices.Grow(slices.Clone(ops), 5)
			spoil(exchange.Take(s, 2, int64(5-back), handed...))
			wantOps(t, "behind a change of the answer", handed, ops)
			if behind := handed[len(handed):cap(handed)]; slices.ContainsFunc(behind, func(x api.Op) bool { return x != api.Op{} }) {
				t.Error("behind what was handed in stands something:", short(behind))
			}
		}
	}
}

// TestEntryIsNobodysElse: its lists are its own.
func TestEntryIsNobodysElse(t *testing.T) {
	for _, x := range sent(at(2, 1)) {
		handed := record.CloneMsg(x.m)
		handed.Ops, handed.Part.Data = slices.Grow(handed.Ops, 5), slices.Grow(handed.Part.Data, 5)
		e, _ := exchange.Entry(handed)
		spoil(handed.Ops)
		clear(handed.Part.Data[:cap(handed.Part.Data)])
		if !record.SameEntry(e, x.e) {
			t.Errorf("an entry of Kind %d changes with its message", e.Kind)
		}
		handed = record.CloneMsg(x.m)
		e, _ = exchange.Entry(handed)
		spoil(e.Ops)
		clear(e.Part.Data[:cap(e.Part.Data)])
		if !record.SameMsg(handed, x.m) {
			t.Errorf("a message of Kind %d changes with its entry", handed.Kind)
		}
	}
}

func TestPeersIsNobodysElse(t *testing.T) {
	s := knowing()
	for range 3 {
		l := exchange.Peers(s)
		wantPeers(t, "behind a change of the answer", s, 1, 2, 3, 4, 5, 6, 7)
		for i := range l[:cap(l)] {
			l[:cap(l)][i] = 99
		}
	}
}

// TestNothingIsWritten: all calls of a state with lists that have room behind them.
func TestNothingIsWritten(t *testing.T) {
	s := manyOrigins()
	for o := range s.Kept {
		s.Kept[o] = slices.Grow(s.Kept[o], 20)
	}
	before := cloneState(s)
	ops := slices.Grow(opsFrom(2, 21, 3), 5)
	for range 2 {
		exchange.Peers(s)
		exchange.Lacks(s, 4)
		exchange.Known(s, at(0, 0), at(1, 0))
		for range exchange.Push(s, at(0, 0), at(4, 0), plenty) {
		}
		exchange.Take(s, 2, 0, ops...)
		exchange.Useful(s, api.Entry{Kind: 2, Origin: 2, Ops: ops})
		exchange.Entry(api.Msg{Kind: 11, Ops: ops})
	}
	wantOps(t, "handed in", ops, opsFrom(2, 21, 3))
	for o := range s.Kept {
		if behind := s.Kept[o][len(s.Kept[o]):cap(s.Kept[o])]; slices.ContainsFunc(behind, func(x api.Op) bool { return x != api.Op{} }) {
			t.Errorf("behind what is kept of %d stands something", o)
		}
	}
	if !reflect.DeepEqual(s, before) {
		t.Error("the state has changed")
	}
}

// R4. (Empty lists of Kept, of Take's operations and of a message's stand in the tests of these calls.)

func TestEmptyData(t *testing.T) {
	for _, data := range [][]byte{nil, {}, make([]byte, 3)[:0]} {
		p := api.Part{Many: 1, Data: data}
		wantEntry(t, "a part without data", api.Msg{Kind: 13, Part: p}, api.Entry{Kind: 5, Part: p})
	}
	for _, list := range [][]api.Slotted{nil, {}} {
		m := api.Msg{Kind: 10, List: list, Ops: []api.Op{}}
		wantEntry(t, "lists that are not named", m, api.Entry{Kind: 4})
	}
}

// R6.

func TestSameCallsAnswerTheSame(t *testing.T) {
	run := func() string {
		r := &maker{source(7)}
		var answers string
		for range 50 {
			s := r.state()
			from, to := r.addr(), r.addr()
			m, err := exchange.Known(s, from, to)
			e, is := exchange.Entry(r.message(s))
			seq, ops := r.piece(s, 3)
			answers += fmt.Sprint(exchange.Peers(s), exchange.Lacks(s, r.site()), m, err, e, is, exchange.Take(s, 3, seq, ops...), exchange.Useful(s, r.entry(s)))
			answers += fmt.Sprint(slices.Collect(exchange.Push(s, from, to, 50)))
		}
		return answers
	}
	answers := run()
	for range 3 {
		if run() != answers {
			t.Fatal("the same calls answer otherwise")
		}
	}
}

// THE BOUND lets exchange go through all pairs of sites; in the number of operations a call that is not near-linear would take many times as long.

const longTime = 20 * time.Second

func wantSoon(t *testing.T, what string, call func()) {
	t.Helper()
	begun := time.Now()
	call()
	if took := time.Since(begun); took > longTime {
		t.Errorf("%s took %v", what, took)
	}
}

func TestManyOperations(t *testing.T) {
	const many = 200_000
	s := keeping(2, 5, many)
	wantSoon(t, "Push of many", func() {
		told := 0
		for m := range exchange.Push(s, at(0, 0), at(1, 0), many) {
			told += len(m.Ops)
		}
		if told != many {
			t.Errorf("%d are told of %d", told, many)
		}
	})
	wantSoon(t, "many Pushes of few", func() {
		for range 20_000 {
			for m := range exchange.Push(s, at(0, 0), at(1, 0), 3) {
				if len(m.Ops) != 3 {
					t.Fatalf("%d are told", len(m.Ops))
				}
			}
		}
	})
	wantSoon(t, "Take of many", func() {
		l := exchange.Take(having(2, 5, 5), 2, 5, s.Kept[2]...)
		if len(l) != many {
			t.Errorf("%d are taken of %d", len(l), many)
		}
	})
}
