package store_test

import (
	"math"
	"testing"

	"orchard/api"
)

// P9.3: what a store tells. (Each test's look at a store asks all of these calls, too.)

func TestTellsOfAnEmptyStore(t *testing.T) {
	_, s := fresh(t)
	if s.Promised() != (api.Ballot{}) || s.First() != 0 || s.Upto() != 0 || s.Broken() {
		t.Error("an empty store:", s.Promised(), s.First(), s.Upto(), s.Broken())
	}
	if slot, data := s.State(); slot != 0 || len(data) != 0 {
		t.Error("an empty store's checkpoint:", slot, data)
	}
	wantFace(t, "an empty store", s, face{})
}

func TestAcceptedAndChosenOfASlot(t *testing.T) {
	s := opened(t, full(t))
	x := fullFace()
	for _, want := range x.accepted {
		if got, is := s.Accepted(want.Slot); !is || !sameSlotted(got, want) {
			t.Errorf("accepted for %d: %v, %v", want.Slot, got, is)
		}
	}
	for _, want := range x.chosen {
		if got, is := s.Chosen(want.Slot); !is || !sameSlotted(with(want.Slot, api.Ballot{}, got), want) {
			t.Errorf("chosen for %d: %v, %v", want.Slot, got, is)
		}
	}
	for _, slot := range append(noSlots(), 0, 2, 9, latest) {
		if got, is := s.Accepted(slot); is || !sameSlotted(got, api.Slotted{}) {
			t.Errorf("accepted for %d: %v, %v", slot, got, is)
		}
	}
	for _, slot := range append(noSlots(), 0, 2, 6, 7, 9, latest) {
		if got, is := s.Chosen(slot); is || !sameSlotted(api.Slotted{Entry: got}, api.Slotted{}) {
			t.Errorf("chosen for %d: %v, %v", slot, got, is)
		}
	}
}

// TestAllFromAnywhere: from any int64 on, up to the first slot without an entry.
func TestAllFromAnywhere(t *testing.T) {
	s := opened(t, full(t)) // chosen are 3, 4, 5 and 8
	rows := []struct {
		from  int64
		slots []int64
	}{
		{math.MinInt64, []int64{3, 4, 5}}, {-1, []int64{3, 4, 5}}, {0, []int64{3, 4, 5}}, {2, []int64{3, 4, 5}}, {3, []int64{3, 4, 5}},
		{4, []int64{4, 5}}, {5, []int64{5}}, {6, nil}, {7, nil}, {8, []int64{8}}, {9, nil}, {latest, nil}, {latest + 1, nil}, {math.MaxInt64, nil},
	}
	for _, row := range rows {
		var want []api.Slotted
		for _, slot := range row.slots {
			want = append(want, with(slot, api.Ballot{}, sample(int(slot))))
		}
		all := s.All(row.from)
		for range 2 {
			var got []api.Slotted
			for slot, e := range all {
				got = append(got, with(slot, api.Ballot{}, e))
			}
			if !sameList(got, want) {
				t.Errorf("All(%d): %v, want %v", row.from, got, want)
			}
		}
	}
}

// TestAllWithNothingAtFirst: it ends at once, though there is something further on.
func TestAllWithNothingAtFirst(t *testing.T) {
	_, s := fresh(t)
	wantErr(t, "Choose", s.Choose(at(1, sample(1)), at(2, sample(2)), at(latest, sample(3))), api.OK)
	for from, many := range map[int64]int{math.MinInt64: 0, 0: 0, 1: 2, 2: 1, 3: 0, latest - 1: 0, latest: 1, latest + 1: 0} {
		if got := told(s, from); len(got) != many {
			t.Errorf("All(%d): %v", from, got)
		}
	}
	wantErr(t, "Choose", s.Choose(at(0, sample(0))), api.OK)
	if got := told(s, -5); len(got) != 3 || s.Upto() != 3 {
		t.Errorf("All(-5): %v; Upto is %d", got, s.Upto())
	}
}

// TestAllIsLeftAnywhere: a range that stops is not gone on with, and may be done again.
func TestAllIsLeftAnywhere(t *testing.T) {
	s := opened(t, full(t))
	all := s.All(0)
	for stop := range 4 {
		var slots []int64
		for slot := range all {
			slots = append(slots, slot)
			if len(slots) > stop {
				break
			}
		}
		if len(slots) != min(stop+1, 3) || slots[0] != 3 {
			t.Errorf("left behind %d: %v", stop, slots)
		}
	}
}

func TestUptoAndFirst(t *testing.T) {
	_, s := fresh(t)
	steps := []struct {
		do          func() api.Errno
		first, upto int64
	}{
		{func() api.Errno { return s.Choose(at(1, sample(1))) }, 0, 0},
		{func() api.Errno { return s.Choose(at(3, sample(3))) }, 0, 0},
		{func() api.Errno { return s.Choose(at(0, sample(0))) }, 0, 2},
		{func() api.Errno { return s.Checkpoint(1, nil) }, 1, 2},
		{func() api.Errno { return s.Checkpoint(2, nil) }, 2, 2},
		{func() api.Errno { return s.Choose(at(2, sample(2)), at(5, sample(5))) }, 2, 4},
		{func() api.Errno { return s.Install(5, nil) }, 5, 6},
		{func() api.Errno { return s.Accept(ballot(1, 0), at(6, sample(6))) }, 5, 6},
		{func() api.Errno { return s.Checkpoint(6, nil) }, 6, 6},
		{func() api.Errno { return s.Install(latest, nil) }, latest, latest},
		{func() api.Errno { return s.Choose(at(latest, sample(0))) }, latest, latest + 1},
	}
	for i, step := range steps {
		wantErr(t, "a step", step.do(), api.OK)
		if s.First() != step.first || s.Upto() != step.upto {
			t.Errorf("behind the step %d: First %d, Upto %d, want %d, %d", i, s.First(), s.Upto(), step.first, step.upto)
		}
	}
}

// TestStateTellsTheCheckpoint: also of a store that has read it.
func TestStateTellsTheCheckpoint(t *testing.T) {
	d, s := fresh(t)
	for slot, data := range []string{"", "one", "", "three"} {
		if slot > 0 {
			wantErr(t, "Install", s.Install(int64(slot), []byte(data)), api.OK)
		}
		again := opened(t, d)
		for _, x := range []func() (int64, []byte){s.State, again.State} {
			if at, b := x(); at != int64(slot) || string(b) != data {
				t.Errorf("the checkpoint is %d, %q, want %d, %q", at, b, slot, data)
			}
		}
	}
}
