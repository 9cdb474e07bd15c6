package store_test

import (
	"bytes"
	"fmt"
	"math"
	"reflect"
	"slices"
	"strings"
	"testing"
	"time"

	"orchard/api"
	"orchard/store"
)

// R2: errors' order, and that an error changes nothing, stands in the tests of the calls; here, what no call made, what is shared, the same again, and THE BOUND.

// R5: a store that no call made.
func TestStoresThatNoCallMade(t *testing.T) {
	for _, s := range []*store.Store{nil, {}} {
		for _, slot := range append(noSlots(), 0, 5, latest) {
			for _, b := range append(noBallots(), ballot(1, 0), ballot(latest, 4)) {
				wantErr(t, "Prepare", refusedPrepare(t, s, b, slot)(), api.ErrMade)
				wantErr(t, "Accept", s.Accept(b, at(slot, sample(1)), at(slot, api.Entry{Kind: 9})), api.ErrMade)
				wantErr(t, "Accept of none", s.Accept(b), api.ErrMade)
			}
			wantErr(t, "Choose", s.Choose(at(slot, sample(1))), api.ErrMade)
			wantErr(t, "Choose of none", s.Choose(), api.ErrMade)
			wantErr(t, "Checkpoint", s.Checkpoint(slot, make([]byte, longestState+1)), api.ErrMade)
			wantErr(t, "Install", s.Install(slot, nil), api.ErrMade)
			if x, is := s.Accepted(slot); is || !reflect.ValueOf(x).IsZero() {
				t.Errorf("Accepted(%d): %v, %v", slot, x, is)
			}
			if e, is := s.Chosen(slot); is || !reflect.ValueOf(e).IsZero() {
				t.Errorf("Chosen(%d): %v, %v", slot, e, is)
			}
			all := s.All(slot)
			if all == nil {
				t.Fatal("there is no iterator")
			}
			for range all {
				t.Error("its iterator tells something")
			}
		}
		if slot, data := s.State(); slot != 0 || data != nil {
			t.Error("its checkpoint is", slot, data)
		}
		if s.Promised() != (api.Ballot{}) || s.First() != 0 || s.Upto() != 0 || s.Broken() {
			t.Error("it answers", s.Promised(), s.First(), s.Upto(), s.Broken())
		}
		if s != nil && !reflect.ValueOf(*s).IsZero() {
			t.Error("a zero store has become another one")
		}
	}
}

// R3: what is handed in or answered, and then written to.

func spoilEntry(e *api.Entry) {
	ops := e.Ops[:cap(e.Ops)]
	for i := range ops {
		ops[i] = api.Op{Name: "spoilt", Node: -1}
	}
	data := e.Part.Data[:cap(e.Part.Data)]
	for i := range data {
		data[i] ^= 255
	}
}

func spoil(l []api.Slotted) {
	for i := range l {
		spoilEntry(&l[i].Entry)
	}
	l = l[:cap(l)]
	for i := range l {
		l[i] = api.Slotted{Slot: -1}
	}
}

// handed is a list of all samples, in memory of its own.
func handed() []api.Slotted {
	var l []api.Slotted
	for i, e := range samples() {
		l = append(l, at(int64(i), e))
	}
	return l
}

// taken is what a store is that has accepted and chosen what was handed in.
func taken(b api.Ballot) face {
	x := face{promised: b, upto: int64(len(handed()))}
	for _, h := range handed() {
		x.accepted = append(x.accepted, with(h.Slot, b, h.Entry))
		x.chosen = append(x.chosen, with(h.Slot, api.Ballot{}, h.Entry))
	}
	return x
}

func TestWhatIsHandedInIsNotKept(t *testing.T) {
	d, s := fresh(t)
	l := handed()
	wantErr(t, "Accept", s.Accept(ballot(1, 0), l...), api.OK)
	spoil(l)
	l = handed()
	wantErr(t, "Choose", s.Choose(l...), api.OK)
	spoil(l)
	wantFace(t, "lists that are written to", s, taken(ballot(1, 0)))
	data := []byte("state and more")
	wantErr(t, "Checkpoint", s.Checkpoint(2, data[:5]), api.OK)
	clear(data)
	wantFace(t, "bytes that are written to", s, taken(ballot(1, 0)).behind(2, "state"))
	data = []byte("again")
	wantErr(t, "Install", s.Install(latest, data), api.OK)
	clear(data)
	wantFace(t, "bytes that are written to", s, face{promised: ballot(1, 0), first: latest, upto: latest, data: "again"})
	wantReopened(t, "written to", d, s)
}

func TestWhatIsHandedInStaysAsItIs(t *testing.T) {
	_, s := fresh(t)
	l, data := handed(), []byte("state and more")
	wantErr(t, "Accept", s.Accept(ballot(1, 0), l...), api.OK)
	wantErr(t, "Choose", s.Choose(l...), api.OK)
	wantErr(t, "Checkpoint", s.Checkpoint(1, data[:5]), api.OK)
	answered, _ := s.Prepare(ballot(1, 1), 0)
	spoil(answered)
	for _, e := range s.All(0) {
		spoilEntry(&e)
	}
	_, state := s.State()
	clear(state)
	wantErr(t, "Install", s.Install(20, data[5:]), api.OK)
	if !reflect.DeepEqual(l, handed()) || string(data) != "state and more" {
		t.Error("what was handed in has changed")
	}
}

// TestOneEntryForSeveralSlots: what is handed in twice is kept, and answered, as two.
func TestOneEntryForSeveralSlots(t *testing.T) {
	for _, i := range []int{2, 5} { // those with lists
		d, s := fresh(t)
		e := sample(i)
		wantErr(t, "Accept", s.Accept(ballot(1, 0), at(0, e), at(1, e)), api.OK)
		wantErr(t, "Choose", s.Choose(at(0, e), at(1, e)), api.OK)
		for _, s := range []*store.Store{s, opened(t, d)} {
			l, _ := s.Prepare(ballot(1, 0), 0)
			spoilEntry(&l[0].Entry)
			if !sameSlotted(l[1], with(1, ballot(1, 0), sample(i))) {
				t.Error("two of an answer share their memory")
			}
			all := told(s, 0)
			spoilEntry(&all[0].Entry)
			if !sameSlotted(all[1], with(1, api.Ballot{}, sample(i))) {
				t.Error("two that are told share their memory")
			}
		}
	}
}

// TestWhatIsAnsweredIsNobodysElse: neither the store's nor that of another answer.
func TestWhatIsAnsweredIsNobodysElse(t *testing.T) {
	d, made := fresh(t)
	wantErr(t, "Accept", made.Accept(ballot(1, 0), handed()...), api.OK)
	wantErr(t, "Choose", made.Choose(handed()...), api.OK)
	wantErr(t, "Checkpoint", made.Checkpoint(1, []byte("state")), api.OK)
	want := taken(ballot(1, 0)).behind(1, "state")
	for name, s := range map[string]*store.Store{"made": made, "opened": opened(t, d)} {
		prepared := func() []api.Slotted { l, _ := s.Prepare(ballot(1, 0), 0); return l }
		singly := func() []api.Slotted {
			var l []api.Slotted
			for _, x := range want.accepted {
				a, _ := s.Accepted(x.Slot)
				l = append(l, a)
			}
			return l
		}
		chosenSingly := func() []api.Slotted {
			var l []api.Slotted
			for _, x := range want.chosen {
				e, _ := s.Chosen(x.Slot)
				l = append(l, with(x.Slot, api.Ballot{}, e))
			}
			return l
		}
		for _, answer := range []func() []api.Slotted{prepared, singly, chosenSingly, func() []api.Slotted { return told(s, 0) }} {
			one, other := answer(), answer()
			kept := answer()
			for i := range one {
				_ = append(one[i].Entry.Ops, api.Op{Name: "more"})
				_ = append(one[i].Entry.Part.Data, 1, 2, 3)
			}
			spoil(one)
			if len(other) == 0 || !sameList(other, kept) {
				t.Errorf("%s: another answer has changed", name)
			}
			wantFace(t, name+", an answer is written to", s, want)
		}
		_, one := s.State()
		_, other := s.State()
		clear(one[:cap(one)])
		_ = append(one, "more"...)
		if string(other) != "state" {
			t.Errorf("%s: another answer of State is %q", name, other)
		}
		wantFace(t, name+", the state is written to", s, want)
	}
	wantReopened(t, "written to", d, made)
}

func TestWhatAnIteratorTellsIsNobodysElse(t *testing.T) {
	_, s := fresh(t)
	wantErr(t, "Choose", s.Choose(handed()...), api.OK)
	all := s.All(0)
	for range 3 {
		i := 0
		for slot, e := range all {
			if !sameSlotted(with(slot, api.Ballot{}, e), with(int64(i), api.Ballot{}, sample(i))) {
				t.Errorf("what was told is written to, and now it is %v", e)
			}
			spoilEntry(&e)
			i++
		}
	}
}

// TestIteratorsTellWhatWasThere: whatever comes behind the asking, even in the midst of the telling.
func TestIteratorsTellWhatWasThere(t *testing.T) {
	want := []int64{3, 4, 5}
	change := func(s *store.Store) {
		wantErr(t, "Choose", s.Choose(at(6, sample(6)), at(7, sample(7))), api.OK)
		wantErr(t, "Checkpoint", s.Checkpoint(5, nil), api.OK)
		wantErr(t, "Install", s.Install(20, nil), api.OK)
	}
	s := opened(t, full(t))
	all := s.All(0)
	change(s)
	for range 2 {
		var slots []int64
		for slot, e := range all {
			slots = append(slots, slot)
			if !sameSlotted(with(slot, api.Ballot{}, e), with(slot, api.Ballot{}, sample(int(slot)))) {
				t.Errorf("for %d it tells %v", slot, e)
			}
		}
		if !slices.Equal(slots, want) {
			t.Errorf("changed behind the asking: %v", slots)
		}
	}
	s = opened(t, full(t))
	var slots []int64
	for slot := range s.All(math.MinInt64) {
		if len(slots) == 1 {
			change(s)
		}
		slots = append(slots, slot)
	}
	if !slices.Equal(slots, want) {
		t.Errorf("changed in its midst: %v", slots)
	}
	_, s = fresh(t)
	none := s.All(0)
	wantErr(t, "Choose", s.Choose(at(0, sample(0))), api.OK)
	for range none {
		t.Error("nothing was there, and it tells something")
	}
}

// R4: nil and empty lists within entries, and empty data.
func TestNilAndEmptyLists(t *testing.T) {
	for _, e := range []api.Entry{
		{Kind: api.EnLeave, Site: 3},
		{Kind: api.EnLeave, Site: 3, Ops: []api.Op{}, Part: api.Part{Data: []byte{}}},
		{Kind: api.EnLeave, Site: 3, Ops: sampleOps()[:0], Part: api.Part{Data: []byte("part")[:0]}},
	} {
		d, s := fresh(t)
		wantErr(t, "Accept", s.Accept(ballot(1, 0), at(0, e)), api.OK)
		wantErr(t, "Choose", s.Choose(at(0, e)), api.OK)
		wantErr(t, "Choose again", s.Choose(at(0, sample(7))), api.OK)
		want := face{promised: ballot(1, 0), upto: 1, accepted: []api.Slotted{with(0, ballot(1, 0), sample(7))}, chosen: []api.Slotted{with(0, api.Ballot{}, sample(7))}}
		wantFace(t, "empty lists", s, want)
		wantReopened(t, "empty lists", d, s)
		wantErr(t, "Checkpoint", s.Checkpoint(1, []byte{}), api.OK)
		wantFiles(t, "no bytes", d, ckptFile(1, ""), safe(seg(0), framed(accepted(0, ballot(1, 0), sample(7)), chosen(0, sample(7)), promise(ballot(1, 0)))))
	}
}

// R6.
func TestSameCallsAnswerTheSame(t *testing.T) {
	run := func() []string {
		src := source(7)
		p := newPair(t, &src, roomy)
		var answers []string
		for range 200 {
			what, err, _ := p.step(t)
			l, low := p.s.Prepare(p.s.Promised(), 0)
			answers = append(answers, fmt.Sprint(what, err, l, low, look(t, p.s), files(t, p.d)))
		}
		return answers
	}
	answers := run()
	for range 5 {
		if !slices.Equal(run(), answers) {
			t.Fatal("the same calls answer otherwise")
		}
	}
}

// TestCheckpointsAreWrittenTheSame: what is left is told by slots, not in the order of a map.
func TestCheckpointsAreWrittenTheSame(t *testing.T) {
	for range 5 {
		d, s := fresh(t)
		var l []api.Slotted
		for i := range int64(30) {
			l = append(l, at((i*7)%31+1, named(i+1)))
		}
		wantErr(t, "Accept", s.Accept(ballot(1, 0), l...), api.OK)
		wantErr(t, "Choose", s.Choose(l...), api.OK)
		want := look(t, s).behind(5, "x")
		before := files(t, d)
		wantErr(t, "Install", s.Install(5, []byte("x")), api.OK)
		var log string
		for _, f := range append(before, files(t, d)...) {
			log += f.all
		}
		if !strings.HasSuffix(log, framed(want.left()...)) {
			t.Fatal("what is left is written otherwise")
		}
	}
}

// THE BOUND: calls of a store with many slots; one that is not near-linear would take many times as long.

const longTime = 20 * time.Second

func wantSoon(t *testing.T, what string, call func()) {
	t.Helper()
	begun := time.Now()
	call()
	if took := time.Since(begun); took > longTime {
		t.Errorf("%s took %v", what, took)
	}
}

func TestManySlots(t *testing.T) {
	const many = 12_000
	d, s := fresh(t)
	var l []api.Slotted
	for i := range int64(many) {
		l = append(l, at((i*7919)%many, named(i+1)))
	}
	wantSoon(t, "Accept and Choose of many", func() {
		wantErr(t, "Accept", s.Accept(ballot(1, 0), l...), api.OK)
		wantErr(t, "Choose", s.Choose(l...), api.OK)
		wantErr(t, "Choose again", s.Choose(l...), api.OK)
	})
	wantSoon(t, "Prepare, All and Open of many", func() {
		answer, err := s.Prepare(ballot(1, 0), 0)
		wantErr(t, "Prepare", err, api.OK)
		again := opened(t, d)
		if len(answer) != many || len(told(again, 0)) != many || again.Upto() != many {
			t.Errorf("many: %d, %d, %d", len(answer), len(told(again, 0)), again.Upto())
		}
	})
	wantSoon(t, "a checkpoint that leaves many", func() {
		wantErr(t, "Checkpoint", s.Checkpoint(many/2, nil), api.OK)
		wantErr(t, "Checkpoint", s.Checkpoint(many, nil), api.OK)
	})
	wantFace(t, "many", s, face{promised: ballot(1, 0), first: many, upto: many})
}

func TestManyCalls(t *testing.T) {
	const many = 12_000
	_, s := fresh(t)
	wantSoon(t, "many calls", func() {
		for i := range int64(many) {
			wantErr(t, "Accept", s.Accept(ballot(1, 0), at(i, named(i+1))), api.OK)
			wantErr(t, "Choose", s.Choose(at(i, named(i+1))), api.OK)
			if e, is := s.Chosen(i); !is || e.Request != i+1 || s.Upto() != i+1 {
				t.Fatalf("chosen for %d: %v, %v; Upto is %d", i, e, is, s.Upto())
			}
		}
	})
}

func TestLongDataAndEntries(t *testing.T) {
	d, s := fresh(t)
	data := bytes.Repeat([]byte("state"), longestState/5)
	wantSoon(t, "long entries and data", func() {
		for i := range int64(60) {
			wantErr(t, "Accept", s.Accept(ballot(1, 0), at(i, sized(longestEntry))), api.OK)
			wantErr(t, "Choose", s.Choose(at(i, sized(longestEntry))), api.OK)
			if i%20 == 19 {
				wantErr(t, "Checkpoint", s.Checkpoint(i+1, data), api.OK)
			}
		}
		wantFace(t, "long ones", opened(t, d), face{promised: ballot(1, 0), first: 60, upto: 60, data: string(data)})
	})
}
