package proposer_test

import (
	"fmt"
	"math"
	"reflect"
	"slices"
	"testing"
	"time"

	"orchard/api"
	"orchard/proposer"
)

// R2: errors' order, and that an error changes nothing, stands in the tests of the calls; here, what no call made, what is shared, the same again, and THE BOUND.

// R5: a proposer that no call made.

func TestProposersThatNoCallMade(t *testing.T) {
	for _, p := range []*proposer.Proposer{nil, {}, new(proposer.Proposer)} {
		for _, replica := range []int{math.MinInt, -1, 0, 1, 5, math.MaxInt} {
			for _, number := range []int64{math.MinInt64, -1, 0, 1, latest, math.MaxInt64} {
				wantMade(t, p, replica, number)
			}
		}
		for _, e := range append(samples(), refused()...) {
			if s, err := p.Put(e); err != api.ErrMade || !reflect.ValueOf(s).IsZero() {
				t.Errorf("Put: %v, error %d", s, err)
			}
		}
		if p.Ready() || p.Waiting() != nil || p.Next() != 0 || p.Ballot() != (api.Ballot{}) {
			t.Error("it answers", p.Ready(), p.Waiting(), p.Next(), p.Ballot())
		}
		if p != nil && !reflect.ValueOf(*p).IsZero() {
			t.Error("a zero proposer has become another one")
		}
	}
}

func wantMade(t *testing.T, p *proposer.Proposer, replica int, number int64) {
	t.Helper()
	for _, l := range [][]api.Slotted{nil, {slotted(number, api.Ballot{}, named(1))}, {slotted(number, ballot(1, 0), refused()[0])}} {
		if yes, err := p.Promise(replica, l...); yes || err != api.ErrMade {
			t.Errorf("Promise(%d, %v): %v, error %d", replica, l, yes, err)
		}
	}
	if yes, err := p.Accepted(replica, number); yes || err != api.ErrMade {
		t.Errorf("Accepted(%d, %d): %v, error %d", replica, number, yes, err)
	}
	wantErr(t, "Forget", p.Forget(number), api.ErrMade)
	if e, chosen := p.Chosen(number); chosen || !reflect.ValueOf(e).IsZero() || p.Missing(number) != nil {
		t.Errorf("Chosen(%d): %v, %v, missing %v", number, e, chosen, p.Missing(number))
	}
}

// R3: what is handed in or answered, and then written to.

func spoilEntry(e *api.Entry) {
	ops := e.Ops[:cap(e.Ops)]
	for i := range ops {
		ops[i] = api.Op{Name: "spoilt", Node: -1}
	}
	data := e.Part.Data[:cap(e.Part.Data)]
	for i := range data {
		data[i] ^= 255
	}
}

func spoil(l []api.Slotted) {
	for i := range l {
		spoilEntry(&l[i].Entry)
	}
	l = l[:cap(l)]
	for i := range l {
		l[i] = api.Slotted{Slot: -1}
	}
}

// cameAll is a list of all samples, for slots from 10 on, backwards.
func cameAll() []api.Slotted {
	var l []api.Slotted
	for i, e := range samples() {
		l = append(l, slotted(10+int64(i), ballot(2, 0), e))
	}
	slices.Reverse(l)
	return l
}

func facePut(many int) face {
	return face{ballot(3, 1), true, 10 + int64(many), fresh(3, 10, slices.Repeat(samples(), 2)[:many]...)}
}

func TestWhatIsHandedInStaysAsItIs(t *testing.T) {
	l, e := cameAll(), sample(2)
	p := ready(t, ballot(3, 1), 10, 3, l...)
	wantPromise(t, "later", p, true, 2, l...)
	put, _ := p.Put(e)
	spoilEntry(&put.Entry)
	spoil(p.Waiting())
	for number := int64(10); number < p.Next(); number++ {
		choose(t, p, number)
		chosen, _ := p.Chosen(number)
		spoilEntry(&chosen)
	}
	wantErr(t, "Forget", p.Forget(p.Next()), api.OK)
	if !reflect.DeepEqual(l, cameAll()) || !reflect.DeepEqual(e, sample(2)) {
		t.Error("what was handed in has changed")
	}
}

func TestWhatIsHandedInIsNotKept(t *testing.T) {
	l := cameAll()
	p := newOne(t, ballot(3, 1), 10, 3)
	wantPromise(t, "all", p, false, 0, l...)
	spoil(l)
	last := cameAll()[:3]
	for i := range last {
		last[i].Ballot = ballot(2, 1)
	}
	wantPromise(t, "some of them with greater ballots", p, true, 1, last...)
	spoil(last)
	wantFace(t, "the lists of Promise are written to", p, 0, facePut(len(samples())))
	for i := range samples() {
		e := sample(i)
		wantPut(t, "one", p, 10+int64(len(samples())+i), e)
		spoilEntry(&e)
	}
	wantFace(t, "the entries of Put are written to", p, 0, facePut(2*len(samples())))
}

// TestOneEntryForSeveralSlots: what is handed in twice is kept, and answered, as two.
func TestOneEntryForSeveralSlots(t *testing.T) {
	for _, i := range []int{2, 5} {
		e := sample(i)
		p := ready(t, ballot(3, 1), 10, 3, slotted(10, ballot(1, 0), e), slotted(11, ballot(1, 0), e))
		wantPut(t, "one", p, 12, e)
		wantPut(t, "the same", p, 13, e)
		for at := range 4 {
			l := p.Waiting()
			spoilEntry(&l[at].Entry)
			for other := range 4 {
				if other != at && !sameEntry(l[other].Entry, sample(i)) {
					t.Errorf("%d is written to, and %d is %+v", at, other, l[other].Entry)
				}
			}
		}
		wantFace(t, "all are written to", p, 0, face{ballot(3, 1), true, 14, fresh(3, 10, e, e, e, e)})
	}
}

// TestWhatIsAnsweredIsNobodysElse: neither the proposer's nor that of another answer.
func TestWhatIsAnsweredIsNobodysElse(t *testing.T) {
	many := len(samples())
	p := ready(t, ballot(3, 1), 10, 3, cameAll()...)
	for i := range many {
		put, err := p.Put(sample(i))
		wantErr(t, "Put", err, api.OK)
		spoilEntry(&put.Entry)
	}
	wantFace(t, "what Put answered is written to", p, 0, facePut(2*many))
	one, other := p.Waiting(), p.Waiting()
	spoil(one)
	for i, s := range other {
		if !sameSlotted(s, slotted(10+int64(i), ballot(3, 1), sample(i%many))) {
			t.Errorf("another answer of Waiting is %+v", s)
		}
	}
	wantFace(t, "what Waiting answered is written to", p, 0, facePut(2*many))
	for number := int64(10); number < p.Next(); number++ {
		l := p.Missing(number)
		for i := range l {
			l[i] = -1
		}
	}
	wantFace(t, "what Missing answered is written to", p, 0, facePut(2*many))
	wantChosenIsNobodysElse(t, p)
}

func wantChosenIsNobodysElse(t *testing.T, p *proposer.Proposer) {
	t.Helper()
	for number := int64(10); number < p.Next(); number++ {
		choose(t, p, number)
		want := sample(int(number-10) % len(samples()))
		for range 2 {
			one, _ := p.Chosen(number)
			other, _ := p.Chosen(number)
			spoilEntry(&one)
			if !sameEntry(other, want) {
				t.Errorf("another answer of Chosen(%d) is %+v", number, other)
			}
		}
	}
}

// TestProposersGoTheirOwnWay: two of the same arguments, told the same lists.
func TestProposersGoTheirOwnWay(t *testing.T) {
	l := cameAll()
	p, other := ready(t, ballot(3, 1), 10, 3, l...), ready(t, ballot(3, 1), 10, 3, l...)
	wantPut(t, "one", p, p.Next(), named(1))
	choose(t, p, 10, 11, 12)
	wantErr(t, "Forget", p.Forget(11), api.OK)
	wantFace(t, "the other one", other, 0, facePut(len(samples())))
}

// R4: nil and empty lists within entries.
func TestNilAndEmptyListsWithin(t *testing.T) {
	p := ready(t, ballot(3, 1), 10, 3)
	for i, e := range []api.Entry{
		{Kind: api.EnLeave},
		{Kind: api.EnLeave, Ops: []api.Op{}, Part: api.Part{Data: []byte{}}},
		{Kind: api.EnLeave, Ops: sampleOps()[:0], Part: api.Part{Data: []byte("part")[:0]}},
	} {
		wantPut(t, "no lists", p, 10+int64(i), e)
		choose(t, p, 10+int64(i))
		if got, chosen := p.Chosen(10 + int64(i)); !chosen || len(got.Ops) != 0 || len(got.Part.Data) != 0 || got.Kind != api.EnLeave {
			t.Errorf("Chosen: %v, %v", got, chosen)
		}
	}
}

// R6.
func TestSameCallsAnswerTheSame(t *testing.T) {
	run := func() []string {
		s := source(7)
		x := newPair(t, &s)
		var answers []string
		for range 200 {
			what, got, _ := x.step()
			answers = append(answers, fmt.Sprint(what, got, x.p.Waiting(), look(t, x.p, x.m.from)))
		}
		return answers
	}
	answers := run()
	for range 5 {
		if !slices.Equal(run(), answers) {
			t.Fatal("the same calls answer otherwise")
		}
	}
}

// THE BOUND: calls with long lists, and of a proposer with many slots; one that is not near-linear would take many times as long.

const longTime = 20 * time.Second

func wantSoon(t *testing.T, what string, call func()) {
	t.Helper()
	begun := time.Now()
	call()
	if took := time.Since(begun); took > longTime {
		t.Errorf("%s took %v", what, took)
	}
}

func TestLongLists(t *testing.T) {
	const many = 300_000
	l := make([]api.Slotted, many)
	for i := range l {
		l[i] = slotted(int64(many-i), ballot(1, 0), api.Entry{})
	}
	p := newOne(t, ballot(3, 1), 0, 3)
	wantSoon(t, "Promise with a long list", func() {
		wantNoPromise(t, "far above from", p, api.ErrLong, 0, l...)
		l[0].Slot = l[many-1].Slot
		wantNoPromise(t, "a slot twice", p, api.ErrArg, 0, l...)
	})
}

func TestManySlots(t *testing.T) {
	const many = 100_000
	p := ready(t, ballot(3, 1), 10, 3)
	wantSoon(t, "Put of many", func() {
		for i := range int64(many) {
			wantPut(t, "one of many", p, 10+i, named(i))
		}
	})
	wantSoon(t, "Waiting of many", func() {
		for i, s := range p.Waiting() {
			if s.Slot != 10+int64(i) {
				t.Fatalf("the slot %d is told as number %d", s.Slot, i)
			}
		}
	})
	wantSoon(t, "Accepted, Chosen and Missing of many", func() {
		for number := int64(10); number < 10+many; number++ {
			choose(t, p, number)
			if e, chosen := p.Chosen(number); !chosen || e.Length != number-10 || len(p.Missing(number)) != 1 {
				t.Fatalf("Chosen of %d: %v, %v", number, e, chosen)
			}
		}
	})
	wantSoon(t, "Forget of many, and what is left then", func() {
		wantErr(t, "Forget", p.Forget(many), api.OK)
		wantErr(t, "Forget", p.Forget(many+10), api.OK)
		wantPut(t, "one more", p, many+10, named(1))
		for range 1_000_000 {
			if l := p.Waiting(); len(l) != 1 {
				t.Fatal("it waits for", len(l))
			}
		}
	})
}
