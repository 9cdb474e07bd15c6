package acceptor_test

import (
	"fmt"
	"math"
	"reflect"
	"slices"
	"testing"
	"time"

	"orchard/acceptor"
	"orchard/api"
)

// R2: errors' order, and that an error changes nothing, stands in the tests of the calls; here, what no call made, what is shared, the same again, and THE BOUND.

// R5: an acceptor that no call made.

func TestAcceptorsThatNoCallMade(t *testing.T) {
	for _, a := range []*acceptor.Acceptor{nil, {}} {
		for _, b := range append(rising(), noBallots()...) {
			for _, slot := range append(noSlots(), 0, 5, latest) {
				l, err := a.Prepare(b, slot)
				if l != nil || err != api.ErrMade {
					t.Errorf("Prepare(%v, %d): %v, error %d", b, slot, l, err)
				}
				wantErr(t, "Accept", a.Accept(b, slot, sample(9)), api.ErrMade)
			}
		}
		for _, slot := range append(noSlots(), 0, 5, latest) {
			wantErr(t, "Forget", a.Forget(slot), api.ErrMade)
			if s, there := a.At(slot); there || !reflect.ValueOf(s).IsZero() {
				t.Errorf("At(%d): %v, %v", slot, s, there)
			}
			all := a.All(slot)
			if all == nil {
				t.Fatal("there is no iterator")
			}
			for range all {
				t.Error("its iterator tells something")
			}
		}
		if a.Promised() != (api.Ballot{}) || a.First() != 0 || a.Len() != 0 || a.Clone() != nil {
			t.Error("it answers", a.Promised(), a.First(), a.Len(), a.Clone())
		}
		if a != nil && !reflect.ValueOf(*a).IsZero() {
			t.Error("a zero acceptor has become another one")
		}
	}
}

// R3: what is handed in or answered, and then written to.

func spoilEntry(e *api.Entry) {
	ops := e.Ops[:cap(e.Ops)]
	for i := range ops {
		ops[i] = api.Op{Name: "spoilt", Node: -1}
	}
	data := e.Part.Data[:cap(e.Part.Data)]
	for i := range data {
		data[i] ^= 255
	}
}

func spoil(l []api.Slotted) {
	for i := range l {
		spoilEntry(&l[i].Entry)
	}
	l = l[:cap(l)]
	for i := range l {
		l[i] = api.Slotted{Slot: -1}
	}
}

func TestWhatIsHandedInStaysAsItIs(t *testing.T) {
	x := full()
	backwards := slices.Clone(x.accepted)
	slices.Reverse(backwards)
	a, _ := acceptor.From(x.promised, x.first, backwards)
	e := sample(9)
	wantErr(t, "Accept", a.Accept(ballot(10, 0), 4, e), api.OK)
	wantErr(t, "Accept in its place", a.Accept(ballot(10, 0), 4, named(1)), api.OK)
	l, _ := a.Prepare(ballot(10, 0), 0)
	spoil(l)
	for s := range a.All(0) {
		spoilEntry(&s.Entry)
	}
	wantErr(t, "Forget", a.Forget(latest), api.OK)
	want := full().accepted
	slices.Reverse(want)
	if !reflect.DeepEqual(backwards, want) || !reflect.DeepEqual(e, sample(9)) {
		t.Error("what was handed in has changed")
	}
}

func TestWhatIsHandedInIsNotKept(t *testing.T) {
	l := full().accepted
	a := made(t, face{full().promised, full().first, l})
	spoil(l)
	wantFace(t, "the list of From is written to", a, full())
	for i := range samples() {
		a, e := newOne(t), sample(i)
		wantErr(t, "Accept", a.Accept(ballot(1, 0), 4, e), api.OK)
		spoilEntry(&e)
		want := face{promised: ballot(1, 0), accepted: []api.Slotted{slotted(4, ballot(1, 0), sample(i))}}
		wantFace(t, "the entry of Accept is written to", a, want)
	}
}

// TestOneEntryForSeveralSlots: what is handed in twice is kept, and answered, as two.
func TestOneEntryForSeveralSlots(t *testing.T) {
	e := sample(9)
	a := newOne(t)
	wantErr(t, "Accept", a.Accept(ballot(1, 0), 4, e), api.OK)
	wantErr(t, "Accept", a.Accept(ballot(1, 0), 5, e), api.OK)
	restored := made(t, face{promised: ballot(1, 0), accepted: []api.Slotted{slotted(4, ballot(1, 0), e), slotted(5, ballot(1, 0), e)}})
	for _, x := range []*acceptor.Acceptor{a, restored, restored.Clone()} {
		l, _ := x.Prepare(ballot(1, 0), 0)
		spoilEntry(&l[0].Entry)
		wantList(t, "one is written to", l[1:], []api.Slotted{slotted(5, ballot(1, 0), sample(9))})
	}
}

// TestWhatIsAnsweredIsNobodysElse: neither the acceptor's nor its clone's nor that of another answer.
func TestWhatIsAnsweredIsNobodysElse(t *testing.T) {
	x := full()
	a := made(t, x)
	c := a.Clone()
	answers := map[string]func() []api.Slotted{
		"Prepare": func() []api.Slotted { l, _ := a.Prepare(x.promised, 0); return l },
		"All":     func() []api.Slotted { return slices.Collect(a.All(0)) },
		"At": func() []api.Slotted {
			var l []api.Slotted
			for _, s := range x.accepted {
				at, _ := a.At(s.Slot)
				l = append(l, at)
			}
			return l
		},
		"All of its clone": func() []api.Slotted { return slices.Collect(c.All(0)) },
	}
	for name, answer := range answers {
		one, other := answer(), answer()
		for i := range one {
			_ = append(one[i].Entry.Ops, api.Op{Name: "more"})
			_ = append(one[i].Entry.Part.Data, 1, 2, 3)
		}
		spoil(one)
		wantList(t, name+": another answer", other, x.accepted)
		wantFace(t, name+" is written to", a, x)
		wantFace(t, name+" is written to: its clone", c, x)
	}
}

func TestWhatAnIteratorTellsIsNobodysElse(t *testing.T) {
	x := full()
	all := made(t, x).All(0)
	for range 3 {
		var told []api.Slotted
		for s := range all {
			told = append(told, plain(s))
			spoilEntry(&s.Entry)
		}
		wantList(t, "what was told is written to", told, x.accepted)
	}
}

// TestIteratorsTellWhatWasThere: whatever comes behind the asking, even in the midst of the telling.
func TestIteratorsTellWhatWasThere(t *testing.T) {
	x := full()
	change := func(a *acceptor.Acceptor) {
		wantAccept(t, "in the place of another", a, slotted(4, ballot(10, 0), named(1)))
		wantAccept(t, "a new one", a, slotted(5, ballot(10, 0), named(1)))
		wantAccept(t, "a new one", a, slotted(latest-1, ballot(10, 0), named(1)))
		wantErr(t, "Forget", a.Forget(13), api.OK)
	}
	a := made(t, x)
	all := a.All(0)
	change(a)
	wantList(t, "changed behind the asking", slices.Collect(all), x.accepted)
	wantList(t, "changed behind the asking, again", slices.Collect(all), x.accepted)

	b := made(t, x)
	var told []api.Slotted
	for s := range b.All(0) {
		if len(told) == 1 {
			change(b)
		}
		told = append(told, s)
	}
	wantList(t, "changed in its midst", told, x.accepted)
	empty := newOne(t)
	none := empty.All(0)
	change(empty)
	wantList(t, "nothing was there", slices.Collect(none), nil)
}

// R4: nil and empty lists within entries.
func TestNilAndEmptyListsWithin(t *testing.T) {
	for _, e := range []api.Entry{
		{Kind: api.EnRemote},
		{Kind: api.EnRemote, Ops: []api.Op{}, Part: api.Part{Data: []byte{}}},
		{Kind: api.EnRemote, Ops: sampleOps()[:0], Part: api.Part{Data: []byte("part")[:0]}},
	} {
		a := newOne(t)
		wantErr(t, "Accept", a.Accept(ballot(1, 0), 4, e), api.OK)
		s, there := a.At(4)
		if !there || len(s.Entry.Ops) != 0 || len(s.Entry.Part.Data) != 0 || s.Entry.Kind != api.EnRemote {
			t.Errorf("At: %v, %v", s, there)
		}
	}
}

// R6.
func TestSameCallsAnswerTheSame(t *testing.T) {
	run := func() []string {
		s := source(7)
		p := &pair{&s, newOne(t), &model{}}
		var answers []string
		for range 300 {
			what, err, _ := p.step(t)
			l, _ := p.a.Prepare(p.a.Promised(), 0)
			answers = append(answers, fmt.Sprint(what, err, l, look(t, p.a)))
		}
		return answers
	}
	answers := run()
	for range 5 {
		if !slices.Equal(run(), answers) {
			t.Fatal("the same calls answer otherwise")
		}
	}
}

// THE BOUND: calls of an acceptor with many slots; one that is not near-linear would take many times as long.

const longTime = 20 * time.Second

func wantSoon(t *testing.T, what string, call func()) {
	t.Helper()
	begun := time.Now()
	call()
	if took := time.Since(begun); took > longTime {
		t.Errorf("%s took %v", what, took)
	}
}

func TestManySlots(t *testing.T) {
	const many = 50_000
	s := source(8)
	var all []api.Slotted
	for i := range many {
		all = append(all, slotted(int64(i*5), ballot(1, 0), named(int64(i))))
	}
	var a *acceptor.Acceptor
	wantSoon(t, "From of many", func() { a = made(t, face{promised: ballot(1, 0), accepted: shuffled(&s, all)}) })
	wantSoon(t, "Prepare, All and Clone of many", func() {
		l, err := a.Clone().Prepare(ballot(2, 0), 0)
		wantErr(t, "Prepare", err, api.OK)
		if len(l) != many || a.Len() != many {
			t.Errorf("many: %d, %d", len(l), a.Len())
		}
		told := 0
		for s := range a.All(math.MinInt64) {
			if s.Slot != all[told].Slot {
				t.Fatalf("the slot %d is told as number %d", s.Slot, told)
			}
			told++
		}
	})
	wantSoon(t, "Accept and At of many", func() {
		for i := range int64(many) {
			wantErr(t, "Accept", a.Accept(ballot(2, 0), i*4, named(i)), api.OK)
			if s, there := a.At(i * 4); !there || s.Entry.Request != i {
				t.Fatalf("At of %d: %v, %v", i*4, s, there)
			}
		}
	})
	wantSoon(t, "Forget of many", func() {
		wantErr(t, "Forget", a.Forget(many*3), api.OK)
		wantErr(t, "Forget", a.Forget(latest), api.OK)
		wantFace(t, "Forget", a, face{promised: ballot(2, 0), first: latest})
	})
}

func TestLongEntries(t *testing.T) {
	e := api.Entry{Kind: api.EnRemote, Ops: slices.Repeat(sampleOps(), 100_000), Part: api.Part{Data: make([]byte, 1<<22)}}
	a := newOne(t)
	wantSoon(t, "a long entry", func() {
		for i := range int64(10) {
			wantErr(t, "Accept", a.Accept(ballot(1, 0), i, e), api.OK)
		}
		l, err := a.Prepare(ballot(1, 1), 0)
		if err != api.OK || len(l) != 10 || len(l[9].Entry.Ops) != len(e.Ops) || len(l[9].Entry.Part.Data) != 1<<22 {
			t.Error("Prepare of long entries: error", err)
		}
	})
}
