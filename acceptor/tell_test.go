package acceptor_test

import (
	"iter"
	"math"
	"slices"
	"testing"

	"orchard/api"
)

// P7.3: Promised, First, At, All, Len, Forget, Clone.

func TestAt(t *testing.T) {
	x := full()
	a := made(t, x)
	for _, s := range x.accepted {
		at, there := a.At(s.Slot)
		if !there || !sameSlotted(at, s) {
			t.Errorf("At of %d: %+v, %v, want %+v", s.Slot, at, there, s)
		}
	}
	for _, slot := range []int64{math.MinInt64, -1, 0, 2, 5, 6, 8, latest - 1, latest + 1, math.MaxInt64} {
		at, there := a.At(slot)
		if there || !sameSlotted(at, api.Slotted{}) {
			t.Errorf("At of %d: %+v, %v, want nothing", slot, at, there)
		}
	}
}

func TestAllFromAnyNumberOn(t *testing.T) {
	x := full()
	a := made(t, x)
	for _, begin := range []int64{math.MinInt64, -latest, -1, 0, 2, 3, 4, 5, 7, 12, 84, 85, latest - 1, latest, latest + 1, math.MaxInt64} {
		wantList(t, "All", slices.Collect(a.All(begin)), from(x.accepted, begin))
	}
	for range newOne(t).All(math.MinInt64) {
		t.Error("a new acceptor tells something")
	}
}

// TestAllTellsInOrder: of many slots, which came in any order.
func TestAllTellsInOrder(t *testing.T) {
	s := source(2)
	a := newOne(t)
	var all []api.Slotted
	for i := range 500 {
		all = append(all, slotted(int64(i)*int64(i)*int64(i), ballot(1, 0), named(int64(i))))
	}
	for _, one := range shuffled(&s, all) {
		wantAccept(t, "one of many", a, one)
	}
	wantList(t, "All", slices.Collect(a.All(0)), all)
	wantPrepare(t, "many", a, ballot(1, 0), 1000, from(all, 1000)...)
}

// taken are the first n that an iterator tells, which is left then.
func taken(all iter.Seq[api.Slotted], n int) []api.Slotted {
	var l []api.Slotted
	if n == 0 {
		return nil
	}
	for s := range all {
		l = append(l, s)
		if len(l) == n {
			break
		}
	}
	return l
}

func TestAllIsLeftAndDoneAgain(t *testing.T) {
	x := full()
	a := made(t, x)
	all := a.All(4)
	want := from(x.accepted, 4)
	for n := range len(want) + 1 {
		wantList(t, "left in its midst", taken(all, n), want[:n])
		wantList(t, "done again", slices.Collect(all), want)
	}
	wantFace(t, "told", a, x)
}

// TestLen: slots count once, however often something was accepted for them.
func TestLen(t *testing.T) {
	a := newOne(t)
	for i := range 20 {
		if a.Len() != i {
			t.Errorf("Len: %d, want %d", a.Len(), i)
		}
		for replica := range 3 {
			wantAccept(t, "one more", a, slotted(int64(i*i), ballot(int64(i+1), replica), named(int64(replica))))
		}
	}
	wantErr(t, "Forget", a.Forget(100), api.OK)
	if a.Len() != 10 {
		t.Errorf("Len behind Forget: %d, want 10", a.Len())
	}
}

// TestForget: at First, below it, between slots, at them, above them all.
func TestForget(t *testing.T) {
	x := full()
	for _, before := range []int64{0, 1, 2, 3, 4, 5, 7, 8, 12, 67, 84, 85, latest - 1, latest} {
		a := made(t, x)
		want := face{x.promised, max(x.first, before), from(x.accepted, before)}
		for range 2 {
			wantErr(t, "Forget", a.Forget(before), api.OK)
			wantFace(t, "Forget", a, want)
		}
		wantPrepare(t, "what is forgotten", a, x.promised, 0, want.accepted...)
		if want.first > 0 {
			wantNoAccept(t, "below First", a, ballot(10, 0), want.first-1, api.ErrGone)
		}
		wantAccept(t, "at First", a, slotted(want.first, ballot(10, 0), named(1)))
	}
}

// TestForgetNeverGoesBack: First never falls.
func TestForgetNeverGoesBack(t *testing.T) {
	a := newOne(t)
	first := int64(0)
	for _, before := range []int64{0, 5, 4, 5, 0, 6, 100, 99, latest - 1, 7, latest, 0, latest} {
		wantErr(t, "Forget", a.Forget(before), api.OK)
		first = max(first, before)
		wantFace(t, "Forget", a, face{first: first})
	}
}

func TestForgetOfWhatIsNoSlot(t *testing.T) {
	a := made(t, full())
	for _, before := range noSlots() {
		wantErr(t, "Forget", a.Forget(before), api.ErrArg)
		wantFace(t, "Forget of what is no slot", a, full())
	}
}

// TestForgetKeepsThePromise: what was promised by what is forgotten is promised still.
func TestForgetKeepsThePromise(t *testing.T) {
	a := newOne(t)
	wantAccept(t, "one", a, slotted(5, ballot(3, 3), named(1)))
	wantErr(t, "Forget", a.Forget(6), api.OK)
	wantFace(t, "Forget", a, face{promised: ballot(3, 3), first: 6})
	wantNoAccept(t, "a lesser ballot", a, ballot(3, 2), 6, api.ErrLow)
	wantNoPrepare(t, "a lesser ballot", a, ballot(3, 2), 0, api.ErrLow)
}

func TestClone(t *testing.T) {
	for _, x := range []face{{}, {promised: ballot(2, 1)}, {first: 9}, full()} {
		a := made(t, x)
		wantFace(t, "Clone", a.Clone(), x)
		wantFace(t, "cloned", a, x)
		wantFace(t, "Clone of a Clone", a.Clone().Clone(), x)
	}
}

// TestClonesGoTheirOwnWay: whichever of both is changed, the other one is as it was.
func TestClonesGoTheirOwnWay(t *testing.T) {
	x := full()
	a := made(t, x)
	b := a.Clone()
	wantPrepare(t, "one", a, ballot(9, 3), latest, x.accepted[len(x.accepted)-1])
	wantFace(t, "Prepare of the other one", b, x)
	wantAccept(t, "one", a, slotted(4, ballot(9, 4), named(1)))
	wantAccept(t, "one", a, slotted(5, ballot(9, 4), named(1)))
	wantFace(t, "Accept of the other one", b, x)
	wantErr(t, "Forget", a.Forget(10), api.OK)
	wantFace(t, "Forget of the other one", b, x)
	changed := look(t, a)
	wantAccept(t, "the other one", b, slotted(12, ballot(11, 0), named(1)))
	wantErr(t, "Forget", b.Forget(latest), api.OK)
	wantFace(t, "changes of the clone", a, changed)
}
