package store_test

import (
	"testing"

	"orchard/api"
)

// P9.2: Choose.

// TestChooseIsWrittenAndNotSynced: in the order of the list, each a record.
func TestChooseIsWrittenAndNotSynced(t *testing.T) {
	for i := range samples() {
		d, s := fresh(t)
		wantChanges(t, "Choose of one", d, 1, func() { wantErr(t, "Choose of one", s.Choose(at(0, sample(i))), api.OK) })
		wantFiles(t, "Choose of one", d, tailed(seg(0), "", framed(chosen(0, sample(i)))))
		wantFace(t, "Choose of one", s, face{upto: 1, chosen: []api.Slotted{with(0, api.Ballot{}, sample(i))}})
		wantReopened(t, "Choose of one", d, s)
		wantFace(t, "Choose of one, lost", opened(t, crashed(t, d, 0)), face{})
	}
}

func TestChooseOfSeveral(t *testing.T) {
	d, s := fresh(t)
	var l []api.Slotted
	var records []string
	want := face{upto: 3}
	for i, slot := range []int64{2, 9, latest, 0, 1, 40} {
		l = append(l, at(slot, sample(i)))
		records = append(records, chosen(slot, sample(i)))
		want.chosen = append(want.chosen, with(slot, api.Ballot{}, sample(i)))
	}
	want.chosen = bySlots(want.chosen)
	wantChanges(t, "Choose of six", d, 6, func() { wantErr(t, "Choose of six", s.Choose(l...), api.OK) })
	wantFiles(t, "Choose of six", d, tailed(seg(0), "", framed(records...)))
	wantFace(t, "Choose of six", s, want)
	wantReopened(t, "Choose of six", d, s)
}

// TestChooseOfWhatIsKnown: what is chosen already, and what is below First, is not written; none is called for none.
func TestChooseOfWhatIsKnown(t *testing.T) {
	d := full(t)
	s := opened(t, d)
	before := files(t, d)
	known := []api.Slotted{at(8, sample(8)), at(3, sample(3)), at(0, sample(0)), at(2, named(7)), at(5, sample(5))}
	wantRefused(t, "what is known", d, s, api.OK, func() api.Errno { return s.Choose(known...) })
	wantRefused(t, "none", d, s, api.OK, func() api.Errno { return s.Choose() })
	wantRefused(t, "an empty list", d, s, api.OK, func() api.Errno { return s.Choose([]api.Slotted{}...) })
	l := append([]api.Slotted{at(7, sample(4)), at(40, sample(6))}, known...)
	l = append(l, at(6, sample(2)), at(1, sample(1)))
	wantChanges(t, "some that are new", d, 3, func() { wantErr(t, "some that are new", s.Choose(l...), api.OK) })
	log := before[1].all + framed(chosen(7, sample(4)), chosen(40, sample(6)), chosen(6, sample(2)))
	wantFiles(t, "some that are new", d, before[0], tailed(seg(0), before[1].all, log[len(before[1].all):]))
	want := fullFace()
	want.upto = 9
	want.chosen = append(want.chosen, with(7, api.Ballot{}, sample(4)), with(40, api.Ballot{}, sample(6)), with(6, api.Ballot{}, sample(2)))
	want.chosen = bySlots(want.chosen)
	wantFace(t, "some that are new", s, want)
}

func TestChooseRefused(t *testing.T) {
	d := full(t)
	s := opened(t, d)
	refused := func(what string, want api.Errno, l ...api.Slotted) {
		t.Helper()
		wantRefused(t, "Choose, "+what, d, s, want, func() api.Errno { return s.Choose(l...) })
	}
	for _, slot := range noSlots() {
		refused("no slot", api.ErrSlot, at(slot, sample(1)))
		refused("no slot, the last one", api.ErrSlot, at(6, sample(1)), at(7, sample(1)), at(slot, sample(1)))
	}
	refused("a slot twice", api.ErrSlot, at(6, sample(1)), at(6, sample(1)))
	refused("a slot twice, with another entry", api.ErrSlot, at(6, sample(1)), at(7, sample(1)), at(6, sample(2)))
	refused("a slot below First twice", api.ErrSlot, at(1, sample(1)), at(1, sample(1)))
	refused("what is chosen, twice", api.ErrSlot, at(4, sample(4)), at(4, sample(4)))
	for _, no := range noEntries() {
		refused("no entry", api.ErrArg, at(6, no))
		refused("no entry, the last one", api.ErrArg, at(6, sample(1)), at(7, sample(2)), at(40, no))
		refused("no entry below First", api.ErrArg, at(0, no))
		refused("no entry for what is chosen", api.ErrArg, at(4, no))
	}
	for i := 3; i < 6; i++ {
		refused("another entry", api.ErrClash, at(int64(i), sample(i+1)))
		refused("another entry behind a new one", api.ErrClash, at(6, sample(1)), at(int64(i), sample(i+1)), at(7, sample(1)))
	}
	refused("another entry behind a gap", api.ErrClash, at(8, sample(1)))
	other := sample(5)
	other.Part.Data[2]++
	refused("another one within", api.ErrClash, at(5, other))
}

// TestChoosesFirstErrors: R2, where several apply: ErrSlot, ErrArg, ErrClash.
func TestChoosesFirstErrors(t *testing.T) {
	d := full(t)
	s := opened(t, d)
	noSlot, noEntry, clash := at(latest+1, sample(1)), at(6, api.Entry{Kind: 9}), at(4, sample(1))
	rows := []struct {
		what string
		want api.Errno
		l    []api.Slotted
	}{
		{"slots ahead of entries", api.ErrSlot, []api.Slotted{noEntry, noSlot}},
		{"slots ahead of a clash", api.ErrSlot, []api.Slotted{clash, noSlot}},
		{"a slot twice ahead of a clash", api.ErrSlot, []api.Slotted{clash, clash}},
		{"slots ahead of all", api.ErrSlot, []api.Slotted{clash, noEntry, noEntry}},
		{"entries ahead of a clash", api.ErrArg, []api.Slotted{clash, noEntry}},
		{"an entry that clashes and may not be", api.ErrArg, []api.Slotted{at(4, api.Entry{Kind: 9})}},
	}
	for _, row := range rows {
		wantRefused(t, row.what, d, s, row.want, func() api.Errno { return s.Choose(row.l...) })
	}
}

// TestChooseOfTheLastSlot: behind it Upto is one more than a slot may be.
func TestChooseOfTheLastSlot(t *testing.T) {
	d, s := fresh(t)
	wantErr(t, "Install", s.Install(latest-1, nil), api.OK)
	wantErr(t, "Choose of the last one", s.Choose(at(latest, sample(1))), api.OK)
	want := face{first: latest - 1, upto: latest - 1, chosen: []api.Slotted{with(latest, api.Ballot{}, sample(1))}}
	wantFace(t, "the last one", s, want)
	wantErr(t, "Choose of both", s.Choose(at(latest, sample(1)), at(latest-1, sample(2))), api.OK)
	want.upto = latest + 1
	want.chosen = append([]api.Slotted{with(latest-1, api.Ballot{}, sample(2))}, want.chosen...)
	wantFace(t, "both", s, want)
	wantReopened(t, "both", d, s)
	for _, slot := range []int64{latest + 1, latest + 2} {
		wantRefused(t, "Choose of no slot", d, s, api.ErrSlot, func() api.Errno { return s.Choose(at(slot, sample(1))) })
	}
	wantErr(t, "Checkpoint at the last one", s.Checkpoint(latest, nil), api.OK)
	wantFace(t, "at the last one", s, face{first: latest, upto: latest + 1, chosen: want.chosen[1:]})
}

// TestChooseIsNotAccept: what is chosen is neither accepted nor promised, and the other way about.
func TestChooseIsNotAccept(t *testing.T) {
	d, s := fresh(t)
	wantErr(t, "Choose", s.Choose(at(0, sample(1))), api.OK)
	wantErr(t, "Accept of another one", s.Accept(ballot(1, 0), at(0, sample(2)), at(1, sample(3))), api.OK)
	wantErr(t, "Choose of what was accepted otherwise", s.Choose(at(1, sample(4))), api.OK)
	want := face{
		promised: ballot(1, 0), upto: 2, accepted: []api.Slotted{with(0, ballot(1, 0), sample(2)), with(1, ballot(1, 0), sample(3))},
		chosen: []api.Slotted{with(0, api.Ballot{}, sample(1)), with(1, api.Ballot{}, sample(4))},
	}
	wantFace(t, "both", s, want)
	wantReopened(t, "both", d, s)
}
