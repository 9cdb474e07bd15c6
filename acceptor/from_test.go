package acceptor_test

import (
	"slices"
	"testing"

	"orchard/acceptor"
	"orchard/api"
)

// P7.1: New and From.

func TestNew(t *testing.T) {
	a := newOne(t)
	wantFace(t, "New", a, face{})
	wantAccept(t, "of a new one", a, slotted(0, ballot(1, 0), named(1)))
	wantFace(t, "another New", newOne(t), face{})
}

func TestFrom(t *testing.T) {
	for _, x := range []face{
		{},
		{first: 7},
		{first: latest},
		{promised: ballot(1, 0)},
		{promised: ballot(latest, 4), first: latest},
		{promised: ballot(2, 1), accepted: []api.Slotted{slotted(0, ballot(2, 1), named(1))}},
		{promised: ballot(1, 0), first: 5, accepted: []api.Slotted{slotted(5, ballot(1, 0), named(1))}},
		{promised: ballot(latest, 4), first: latest, accepted: []api.Slotted{slotted(latest, ballot(latest, 4), named(1))}},
		{promised: ballot(3, 2), accepted: []api.Slotted{slotted(0, ballot(3, 1), named(1)), slotted(latest, ballot(2, 4), named(2))}},
		full(),
	} {
		wantFace(t, "From", made(t, x), x)
	}
}

// TestFromOfEachEdge: the ballots and slots that may be, at their edges.
func TestFromOfEachEdge(t *testing.T) {
	for _, b := range rising() {
		wantFace(t, "a promise alone", made(t, face{promised: b}), face{promised: b})
		for _, first := range []int64{0, 1, latest - 1, latest} {
			x := face{promised: b, first: first, accepted: []api.Slotted{slotted(first, b, sample(2))}}
			wantFace(t, "a slot at First, with what was promised", made(t, x), x)
		}
	}
}

func TestFromInAnyOrder(t *testing.T) {
	s := source(1)
	x := full()
	for range 50 {
		wantFace(t, "in any order", made(t, face{x.promised, x.first, shuffled(&s, x.accepted)}), x)
	}
	backwards := slices.Clone(x.accepted)
	slices.Reverse(backwards)
	wantFace(t, "backwards", made(t, face{x.promised, x.first, backwards}), x)
}

// TestFromGoesOn: it promises and accepts as the one from which its state comes.
func TestFromGoesOn(t *testing.T) {
	a := made(t, full())
	wantNoPrepare(t, "below", a, ballot(9, 1), 0, api.ErrLow)
	wantNoAccept(t, "below", a, ballot(9, 1), 4, api.ErrLow)
	wantNoAccept(t, "forgotten", a, ballot(9, 2), 2, api.ErrGone)
	wantPrepare(t, "the same", a, ballot(9, 2), 0, full().accepted...)
	wantAccept(t, "the same", a, slotted(4, ballot(9, 2), named(1)))
}

func TestFromOfNoPromise(t *testing.T) {
	for _, b := range noBallots() {
		if b == (api.Ballot{}) {
			continue
		}
		wantNoFrom(t, "no ballot", face{promised: b}, api.ErrArg)
		wantNoFrom(t, "no ballot", face{promised: b, first: 4, accepted: []api.Slotted{slotted(5, ballot(1, 0), named(1))}}, api.ErrArg)
	}
	for _, first := range noSlots() {
		wantNoFrom(t, "no slot as first", face{first: first}, api.ErrArg)
		wantNoFrom(t, "no slot as first", face{promised: ballot(2, 2), first: first}, api.ErrArg)
		wantNoFrom(t, "no slot as first", face{ballot(2, 2), first, []api.Slotted{slotted(latest, ballot(1, 0), named(1))}}, api.ErrArg)
	}
}

// TestFromOfNoState: what may not be in the list, alone and among others.
func TestFromOfNoState(t *testing.T) {
	promised := ballot(5, 2)
	var wrong []api.Slotted
	for _, slot := range append(noSlots(), 0, 6) {
		wrong = append(wrong, slotted(slot, ballot(1, 0), named(1)))
	}
	for _, b := range append(noBallots(), ballot(5, 3), ballot(6, 0), ballot(latest, 4)) {
		wrong = append(wrong, slotted(30, b, named(1)))
	}
	right := []api.Slotted{slotted(9, ballot(5, 2), named(1)), slotted(7, ballot(4, 4), named(2)), slotted(8, ballot(1, 0), named(3))}
	for _, s := range wrong {
		wantNoFrom(t, "alone", face{promised, 7, []api.Slotted{s}}, api.ErrArg)
		for at := range len(right) + 1 {
			wantNoFrom(t, "among others", face{promised, 7, slices.Insert(slices.Clone(right), at, s)}, api.ErrArg)
		}
	}
	made(t, face{promised, 7, right})
}

// TestFromOfNoPromiseAtAll: where nothing was promised, nothing was accepted.
func TestFromOfNoPromiseAtAll(t *testing.T) {
	for _, b := range append(rising(), noBallots()...) {
		wantNoFrom(t, "the zero ballot", face{accepted: []api.Slotted{slotted(0, b, named(1))}}, api.ErrArg)
	}
}

func TestFromOfASlotTwice(t *testing.T) {
	one := slotted(7, ballot(1, 0), named(1))
	for _, other := range []api.Slotted{one, slotted(7, ballot(2, 0), named(1)), slotted(7, ballot(1, 0), named(2))} {
		wantNoFrom(t, "one behind the other", face{ballot(2, 0), 7, []api.Slotted{one, other}}, api.ErrTwice)
		between := []api.Slotted{one, slotted(8, ballot(1, 0), named(1)), slotted(latest, ballot(1, 0), named(1)), other}
		wantNoFrom(t, "others between", face{ballot(2, 0), 0, between}, api.ErrTwice)
	}
}

// TestFromErrorsOrder: of one, ErrArg is ahead of ErrTwice; of several, the first one's is told; what is said of promised and first is ahead of all.
func TestFromErrorsOrder(t *testing.T) {
	promised := ballot(3, 0)
	right := slotted(7, ballot(1, 0), named(1))
	above, below := slotted(7, ballot(3, 1), named(1)), slotted(6, ballot(1, 0), named(1))
	wantNoFrom(t, "twice and above", face{promised, 7, []api.Slotted{right, above}}, api.ErrArg)
	wantNoFrom(t, "twice, then above", face{promised, 7, []api.Slotted{right, right, above}}, api.ErrTwice)
	wantNoFrom(t, "twice, then below first", face{promised, 7, []api.Slotted{right, right, below}}, api.ErrTwice)
	wantNoFrom(t, "below first, then twice", face{promised, 7, []api.Slotted{below, right, right}}, api.ErrArg)
	wantNoFrom(t, "below first twice", face{promised, 7, []api.Slotted{below, below}}, api.ErrArg)
	wantNoFrom(t, "first is no slot, and twice", face{promised, -1, []api.Slotted{right, right}}, api.ErrArg)
	wantNoFrom(t, "promised is no ballot, and twice", face{ballot(3, 5), 7, []api.Slotted{right, right}}, api.ErrArg)
}

// R4.
func TestFromOfNilAndEmptyLists(t *testing.T) {
	for _, l := range [][]api.Slotted{nil, {}} {
		a, err := acceptor.From(ballot(2, 0), 4, l)
		wantErr(t, "From", err, api.OK)
		wantFace(t, "no list", a, face{promised: ballot(2, 0), first: 4})
	}
}
