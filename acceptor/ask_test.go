package acceptor_test

import (
	"math"
	"testing"

	"orchard/api"
)

// P7.2: Prepare and Accept.

func TestPrepare(t *testing.T) {
	a := newOne(t)
	var last api.Ballot
	for _, b := range rising() {
		wantNoPrepare(t, "the zero ballot", a, api.Ballot{}, 0, api.ErrArg)
		wantPrepare(t, "of nothing", a, b, 0)
		wantPrepare(t, "the same again", a, b, 0)
		if last != (api.Ballot{}) {
			wantNoPrepare(t, "a lesser one", a, last, 0, api.ErrLow)
		}
		last = b
	}
	wantFace(t, "promises alone", a, face{promised: last})
}

// TestPrepareHoldsBallots: each against each, what was promised by a Prepare, an Accept or From.
func TestPrepareHoldsBallots(t *testing.T) {
	for i, promised := range rising() {
		prepared, accepted := newOne(t), newOne(t)
		wantPrepare(t, "of nothing", prepared, promised, 0)
		wantAccept(t, "of nothing", accepted, slotted(4, promised, named(1)))
		restored := made(t, face{promised: promised})
		for j, b := range rising() {
			if j < i {
				wantNoPrepare(t, "lesser", prepared, b, 0, api.ErrLow)
				wantNoPrepare(t, "lesser", accepted, b, 0, api.ErrLow)
				wantNoPrepare(t, "lesser", restored, b, 0, api.ErrLow)
				wantNoAccept(t, "lesser", prepared, b, 4, api.ErrLow)
				wantNoAccept(t, "lesser", accepted, b, 4, api.ErrLow)
				wantNoAccept(t, "lesser", restored, b, 4, api.ErrLow)
				continue
			}
			wantPrepare(t, "not lesser", prepared.Clone(), b, 0)
			wantPrepare(t, "not lesser", accepted.Clone(), b, 0, slotted(4, promised, named(1)))
			wantPrepare(t, "not lesser", restored.Clone(), b, 0)
			wantAccept(t, "not lesser", prepared.Clone(), slotted(4, b, named(2)))
			wantAccept(t, "not lesser", accepted.Clone(), slotted(4, b, named(2)))
			wantAccept(t, "not lesser", restored.Clone(), slotted(4, b, named(2)))
		}
	}
}

// TestPrepareTellsFromASlotOn: from may be any slot, below First and above all that were accepted, too.
func TestPrepareTellsFromASlotOn(t *testing.T) {
	x := full()
	for _, begin := range []int64{0, 1, 2, 3, 4, 5, 6, 7, 8, 12, 13, 67, 84, 85, 103, 104, latest - 1, latest} {
		a := made(t, x)
		wantPrepare(t, "from a slot on", a, ballot(9, 2), begin, from(x.accepted, begin)...)
		wantPrepare(t, "from a slot on, again", a, ballot(9, 2), begin, from(x.accepted, begin)...)
		x.promised = ballot(9, 2)
		wantFace(t, "from a slot on", a, x)
		wantPrepare(t, "a greater one", a, ballot(10, 0), begin, from(x.accepted, begin)...)
	}
}

func TestPrepareErrors(t *testing.T) {
	a := made(t, full())
	for _, b := range noBallots() {
		for _, slot := range append(noSlots(), 0, 4, latest) {
			wantNoPrepare(t, "no ballot", a, b, slot, api.ErrArg)
		}
	}
	for _, slot := range noSlots() {
		wantNoPrepare(t, "no slot", a, ballot(9, 2), slot, api.ErrArg)
		wantNoPrepare(t, "no slot, and a greater ballot", a, ballot(10, 0), slot, api.ErrArg)
		wantNoPrepare(t, "no slot, and a lesser ballot", a, ballot(1, 0), slot, api.ErrArg)
	}
	for _, b := range []api.Ballot{ballot(9, 1), ballot(9, 0), ballot(8, 4), ballot(1, 0)} {
		for _, slot := range []int64{0, 2, 3, latest} {
			wantNoPrepare(t, "a lesser ballot", a, b, slot, api.ErrLow)
		}
	}
}

func TestAcceptEachKind(t *testing.T) {
	a := newOne(t)
	want := face{promised: ballot(1, 0)}
	for i, e := range samples() {
		s := slotted(int64(i*3), ballot(1, 0), e)
		wantAccept(t, "each Kind", a, s)
		want.accepted = append(want.accepted, s)
		wantFace(t, "each Kind", a, want)
	}
	wantPrepare(t, "all of them", a, ballot(1, 1), 0, want.accepted...)
}

// TestAcceptInThePlaceOfWhatWas: every entry takes the place of every other one, with the same ballot and with a greater one.
func TestAcceptInThePlaceOfWhatWas(t *testing.T) {
	for i := range samples() {
		for j := range samples() {
			a := newOne(t)
			for _, s := range []api.Slotted{
				slotted(5, ballot(1, 3), sample(i)), slotted(6, ballot(1, 3), sample(i)),
				slotted(5, ballot(1, 3), sample(j)), slotted(5, ballot(2, 0), sample(i)), slotted(5, ballot(2, 1), sample(j)),
			} {
				wantAccept(t, "in the place of another", a, s)
			}
			want := []api.Slotted{slotted(5, ballot(2, 1), sample(j)), slotted(6, ballot(1, 3), sample(i))}
			wantFace(t, "in the place of another", a, face{promised: ballot(2, 1), accepted: want})
		}
	}
}

func TestAcceptTheSameAgain(t *testing.T) {
	a := newOne(t)
	s := slotted(5, ballot(1, 3), sample(9))
	for range 3 {
		wantAccept(t, "the same again", a, s)
		wantFace(t, "the same again", a, face{promised: s.Ballot, accepted: []api.Slotted{s}})
	}
}

func TestAcceptAnySlots(t *testing.T) {
	a := newOne(t)
	for _, slot := range []int64{latest, 7, 0, latest - 1, 1, 1 << 33} {
		wantAccept(t, "slots in any order", a, slotted(slot, ballot(2, 2), named(slot)))
	}
	var want []api.Slotted
	for _, slot := range []int64{0, 1, 7, 1 << 33, latest - 1, latest} {
		want = append(want, slotted(slot, ballot(2, 2), named(slot)))
	}
	wantFace(t, "slots in any order", a, face{promised: ballot(2, 2), accepted: want})
}

// TestAcceptPromises: without a Prepare, too.
func TestAcceptPromises(t *testing.T) {
	a := newOne(t)
	wantPrepare(t, "of nothing", a, ballot(1, 0), 0)
	wantAccept(t, "a ballot that was not prepared", a, slotted(5, ballot(3, 1), named(1)))
	wantNoPrepare(t, "between them", a, ballot(3, 0), 0, api.ErrLow)
	wantNoAccept(t, "between them", a, ballot(2, 4), 6, api.ErrLow)
	wantPrepare(t, "the same", a, ballot(3, 1), 0, slotted(5, ballot(3, 1), named(1)))
}

func TestAcceptErrors(t *testing.T) {
	a := made(t, full())
	for _, b := range noBallots() {
		for _, slot := range append(noSlots(), 0, 2, 3, 4, latest) {
			wantNoAccept(t, "no ballot", a, b, slot, api.ErrArg)
		}
	}
	for _, slot := range noSlots() {
		wantNoAccept(t, "no slot", a, ballot(9, 2), slot, api.ErrArg)
		wantNoAccept(t, "no slot, and a greater ballot", a, ballot(10, 0), slot, api.ErrArg)
		wantNoAccept(t, "no slot, and a lesser ballot", a, ballot(1, 0), slot, api.ErrArg)
	}
	for _, slot := range []int64{0, 1, 2} {
		wantNoAccept(t, "a lesser ballot, and a slot that is forgotten", a, ballot(9, 1), slot, api.ErrLow)
		wantNoAccept(t, "a slot that is forgotten", a, ballot(9, 2), slot, api.ErrGone)
		wantNoAccept(t, "a slot that is forgotten, and a greater ballot", a, ballot(latest, 4), slot, api.ErrGone)
	}
	for _, slot := range []int64{3, 4, 5, latest} {
		wantNoAccept(t, "a lesser ballot", a, ballot(9, 1), slot, api.ErrLow)
	}
	wantAccept(t, "at First", a, slotted(3, ballot(9, 2), named(1)))
}

// TestAcceptAtTheLastSlot: First at MaxTime leaves one slot.
func TestAcceptAtTheLastSlot(t *testing.T) {
	a := newOne(t)
	wantErr(t, "Forget", a.Forget(latest), api.OK)
	wantNoAccept(t, "below it", a, ballot(1, 0), latest-1, api.ErrGone)
	wantNoAccept(t, "above it", a, ballot(1, 0), latest+1, api.ErrArg)
	wantNoAccept(t, "far above it", a, ballot(1, 0), math.MaxInt64, api.ErrArg)
	wantAccept(t, "it", a, slotted(latest, ballot(1, 0), named(1)))
}
