package store_test

import (
	"fmt"
	"testing"

	"orchard/api"
)

// P9.2: Prepare and Accept.

// TestRecordsByteByByte: what calls append, written out.
func TestRecordsByteByByte(t *testing.T) {
	d, s := fresh(t)
	wantPrepare(t, "a promise", s, ballot(9, 2), 0)
	wantErr(t, "Accept", s.Accept(ballot(200, 4), at(70, sample(7))), api.OK)
	wantErr(t, "Choose", s.Choose(at(5, sample(7))), api.OK)
	synced := framed("\x02\x12\x04", "\x04\x90\x03\x08\x8c\x01\x04\x0e\x06")
	wantFiles(t, "three records", d, tailed(seg(0), synced, framed("\x06\x0a\x04\x0e\x06")))
	wantErr(t, "Checkpoint", s.Install(6, []byte("ab")), api.OK)
	again := framed("\x06\x0a\x04\x0e\x06", "\x02\x90\x03\x08", "\x04\x90\x03\x08\x8c\x01\x04\x0e\x06")
	wantFiles(t, "a checkpoint", d, safe("ckpt", framed("\x0c\x04ab")), safe(seg(0), synced+again))
}

func TestPrepareIsWrittenAndSynced(t *testing.T) {
	d, s := fresh(t)
	log := ""
	for _, b := range []api.Ballot{ballot(1, 0), ballot(1, 3), ballot(2, 0), ballot(1<<33, 4), ballot(latest, 0), ballot(latest, 4)} {
		wantChanges(t, "a greater ballot", d, 2, func() { wantPrepare(t, "a greater ballot", s, b, 0) })
		log += framed(promise(b))
		wantFiles(t, "a greater ballot", d, safe(seg(0), log))
		wantFace(t, "a greater ballot", s, face{promised: b})
		wantFace(t, "a greater ballot, opened again", opened(t, crashed(t, d, 0)), face{promised: b})
		wantChanges(t, "the same ballot", d, 0, func() { wantPrepare(t, "the same ballot", s, b, latest) })
		wantFiles(t, "the same ballot", d, safe(seg(0), log))
	}
}

// TestPrepareAnswers: what was accepted for slots from from on, by slots.
func TestPrepareAnswers(t *testing.T) {
	for _, b := range []api.Ballot{ballot(7, 2), ballot(7, 3)} {
		for _, from := range []int64{0, 1, 2, 3, 4, 7, 8, 9, latest} {
			s := opened(t, full(t))
			wantPrepare(t, fmt.Sprintf("from %d", from), s, b, from, since(fullFace().accepted, from)...)
			want := fullFace()
			want.promised = b
			wantFace(t, "Prepare", s, want)
		}
	}
}

func TestPrepareRefused(t *testing.T) {
	d := full(t)
	s := opened(t, d)
	for _, b := range append(noBallots(), ballot(1, 0), ballot(7, 1), ballot(7, 2), ballot(8, 0)) {
		for _, from := range noSlots() {
			wantRefused(t, fmt.Sprintf("Prepare(%v, %d)", b, from), d, s, api.ErrArg, refusedPrepare(t, s, b, from))
		}
	}
	for _, from := range []int64{0, 3, latest} {
		for _, b := range noBallots() {
			wantRefused(t, fmt.Sprintf("Prepare(%v, %d)", b, from), d, s, api.ErrArg, refusedPrepare(t, s, b, from))
		}
		for _, b := range []api.Ballot{ballot(1, 0), ballot(6, 4), ballot(7, 1)} {
			wantRefused(t, fmt.Sprintf("Prepare(%v, %d)", b, from), d, s, api.ErrLow, refusedPrepare(t, s, b, from))
		}
	}
}

// TestWhatAsksNothingOfTheDisk: a promise that is there already, and entries that are chosen already, need no disk.
func TestWhatAsksNothingOfTheDisk(t *testing.T) {
	d := full(t)
	s := opened(t, d)
	wantErr(t, "Crash", d.Crash(0), api.OK)
	wantPrepare(t, "the same ballot", s, ballot(7, 2), 4, since(fullFace().accepted, 4)...)
	wantErr(t, "Accept of none", s.Accept(ballot(7, 2)), api.OK)
	wantErr(t, "Choose of none", s.Choose(), api.OK)
	wantErr(t, "Choose of what is chosen", s.Choose(at(3, sample(3)), at(0, sample(8)), at(8, sample(8))), api.OK)
	wantErr(t, "Choose of what is below First", s.Choose(at(2, named(5))), api.OK)
	wantFace(t, "a disk that is down", s, fullFace())
}

// TestPrepareSyncsWhatWasChosen: it is the whole log that is synced.
func TestPrepareSyncsWhatWasChosen(t *testing.T) {
	d, s := fresh(t)
	wantErr(t, "Choose", s.Choose(at(0, sample(1))), api.OK)
	wantFiles(t, "chosen", d, tailed(seg(0), "", framed(chosen(0, sample(1)))))
	wantPrepare(t, "behind it", s, ballot(1, 0), 0)
	wantFiles(t, "prepared", d, safe(seg(0), framed(chosen(0, sample(1)), promise(ballot(1, 0)))))
}

func TestAcceptIsWrittenAndSynced(t *testing.T) {
	for i := range samples() {
		for _, slot := range []int64{0, 1, 40, latest - 1, latest} {
			for _, b := range []api.Ballot{ballot(1, 0), ballot(latest, 4)} {
				d, s := fresh(t)
				wantChanges(t, "Accept of one", d, 2, func() { wantErr(t, "Accept of one", s.Accept(b, at(slot, sample(i))), api.OK) })
				wantFiles(t, "Accept of one", d, safe(seg(0), framed(accepted(slot, b, sample(i)))))
				want := face{promised: b, accepted: []api.Slotted{with(slot, b, sample(i))}}
				wantFace(t, "Accept of one", s, want)
				wantFace(t, "Accept of one, opened again", opened(t, crashed(t, d, 0)), want)
			}
		}
	}
}

// TestAcceptOfSeveral: in the order of the list, each a record, synced once.
func TestAcceptOfSeveral(t *testing.T) {
	d, s := fresh(t)
	b := ballot(3, 1)
	var l []api.Slotted
	var records []string
	want := face{promised: b}
	for i, slot := range []int64{9, 4, latest, 0, 5, 40} {
		l = append(l, at(slot, sample(i)))
		records = append(records, accepted(slot, b, sample(i)))
		want.accepted = append(want.accepted, with(slot, b, sample(i)))
	}
	want.accepted = bySlots(want.accepted)
	wantChanges(t, "Accept of six", d, 7, func() { wantErr(t, "Accept of six", s.Accept(b, l...), api.OK) })
	wantFiles(t, "Accept of six", d, safe(seg(0), framed(records...)))
	wantFace(t, "Accept of six", s, want)
	wantReopened(t, "Accept of six", d, s)
	wantPrepare(t, "what six are", s, b, 0, want.accepted...)
}

// TestAcceptOverSegments: where a segment is full, wal begins another one, ahead of which it syncs.
func TestAcceptOverSegments(t *testing.T) {
	d, s := fresh(t)
	b := ballot(3, 1)
	call := func() {
		wantErr(t, "Accept", s.Accept(b, at(0, bulky(2000)), at(1, bulky(700)), at(2, bulky(600)), at(3, sample(7))), api.OK)
	}
	wantChanges(t, "Accept over segments", d, 7, call)
	wantFiles(t, "Accept over segments", d,
		safe(seg(0), framed(accepted(0, b, bulky(2000)))),
		safe(seg(1), framed(accepted(1, b, bulky(700)), accepted(2, b, bulky(600)))),
		safe(seg(3), framed(accepted(3, b, sample(7)))))
	wantReopened(t, "Accept over segments", d, s)
}

// TestAcceptInThePlaceOfAnother: with the same ballot and a greater one.
func TestAcceptInThePlaceOfAnother(t *testing.T) {
	d, s := fresh(t)
	for i, b := range []api.Ballot{ballot(1, 0), ballot(1, 0), ballot(1, 1), ballot(2, 0)} {
		wantErr(t, "Accept", s.Accept(b, at(5, sample(i+3))), api.OK)
		wantFace(t, "Accept", s, face{promised: b, accepted: []api.Slotted{with(5, b, sample(i+3))}})
		wantReopened(t, "Accept", d, s)
	}
}

// TestAcceptLooksAtNoBallotOfItsList.
func TestAcceptLooksAtNoBallotOfItsList(t *testing.T) {
	for _, other := range append(noBallots(), ballot(1, 0), ballot(9, 0)) {
		d, s := fresh(t)
		wantErr(t, "Accept", s.Accept(ballot(2, 2), with(0, other, sample(1))), api.OK)
		wantFace(t, "Accept", s, face{promised: ballot(2, 2), accepted: []api.Slotted{with(0, ballot(2, 2), sample(1))}})
		wantErr(t, "Choose", s.Choose(with(0, other, sample(1))), api.OK)
		wantReopened(t, "Choose", d, s)
	}
}

// TestAcceptOfNone: as Prepare of its ballot.
func TestAcceptOfNone(t *testing.T) {
	d, s := fresh(t)
	for _, none := range [][]api.Slotted{nil, {}} {
		b := s.Promised()
		b.Round++
		before := files(t, d)
		wantChanges(t, "a greater ballot", d, 2, func() { wantErr(t, "a greater ballot", s.Accept(b, none...), api.OK) })
		log := framed(promise(b))
		if len(before) > 0 {
			log = before[0].all + log
		}
		wantFiles(t, "a greater ballot", d, safe(seg(0), log))
		wantFace(t, "a greater ballot", s, face{promised: b})
		wantRefused(t, "the same ballot", d, s, api.OK, func() api.Errno { return s.Accept(b, none...) })
		for _, no := range noBallots() {
			wantRefused(t, "no ballot", d, s, api.ErrArg, func() api.Errno { return s.Accept(no, none...) })
		}
	}
	wantRefused(t, "a lesser ballot", d, s, api.ErrLow, func() api.Errno { return s.Accept(ballot(1, 4)) })
}

// TestAcceptRefused: each error alone, among slots and entries that may be.
func TestAcceptRefused(t *testing.T) {
	d := full(t)
	s := opened(t, d)
	b := ballot(8, 0)
	refused := func(what string, want api.Errno, b api.Ballot, l ...api.Slotted) {
		t.Helper()
		wantRefused(t, "Accept, "+what, d, s, want, func() api.Errno { return s.Accept(b, l...) })
	}
	for _, no := range noBallots() {
		refused("no ballot", api.ErrArg, no, at(4, sample(1)))
	}
	for _, slot := range append(noSlots(), 2, 1, 0) { // First is 3
		refused("no slot", api.ErrSlot, b, at(slot, sample(1)))
		refused("no slot, the first one", api.ErrSlot, b, at(slot, sample(1)), at(4, sample(2)))
		refused("no slot, the last one", api.ErrSlot, b, at(4, sample(2)), at(5, sample(1)), at(slot, sample(1)))
	}
	refused("a slot twice", api.ErrSlot, b, at(4, sample(1)), at(4, sample(1)))
	refused("a slot twice, with another entry", api.ErrSlot, b, at(4, sample(1)), at(5, sample(1)), at(4, sample(2)))
	refused("the last slot twice", api.ErrSlot, b, at(latest, sample(1)), at(5, sample(1)), at(latest, sample(2)))
	for _, no := range noEntries() {
		refused("no entry", api.ErrArg, b, at(4, no))
		refused("no entry, the last one", api.ErrArg, b, at(4, sample(1)), at(5, sample(2)), at(6, no))
	}
	for _, low := range []api.Ballot{ballot(1, 0), ballot(7, 1)} {
		refused("a lesser ballot", api.ErrLow, low, at(4, sample(1)))
	}
	wantErr(t, "Accept for First", s.Accept(ballot(7, 2), at(3, sample(1))), api.OK)
}

// TestAcceptsFirstErrors: R2, where several apply: ErrArg of the ballot, ErrSlot, ErrArg of an entry, ErrLow.
func TestAcceptsFirstErrors(t *testing.T) {
	d := full(t)
	s := opened(t, d)
	none, low, good := ballot(0, 0), ballot(1, 0), ballot(8, 0)
	noSlot, noEntry, old := at(-1, sample(1)), at(4, api.Entry{Kind: 9}), at(2, sample(1))
	rows := []struct {
		what string
		want api.Errno
		b    api.Ballot
		l    []api.Slotted
	}{
		{"the ballot ahead of slots", api.ErrArg, none, []api.Slotted{noSlot, old}},
		{"the ballot ahead of all", api.ErrArg, none, []api.Slotted{noEntry, noSlot, old, old}},
		{"slots ahead of entries", api.ErrSlot, good, []api.Slotted{noEntry, at(5, sample(1)), noSlot}},
		{"a slot below First ahead of entries", api.ErrSlot, good, []api.Slotted{noEntry, old}},
		{"a slot twice ahead of entries", api.ErrSlot, good, []api.Slotted{noEntry, noEntry}},
		{"slots ahead of a lesser ballot", api.ErrSlot, low, []api.Slotted{noSlot}},
		{"a slot twice ahead of a lesser ballot", api.ErrSlot, low, []api.Slotted{at(4, sample(1)), at(4, sample(1))}},
		{"slots ahead of all", api.ErrSlot, low, []api.Slotted{noEntry, old}},
		{"entries ahead of a lesser ballot", api.ErrArg, low, []api.Slotted{at(5, sample(1)), noEntry}},
	}
	for _, row := range rows {
		wantRefused(t, row.what, d, s, row.want, func() api.Errno { return s.Accept(row.b, row.l...) })
	}
}

// TestLongestEntries: MaxEntry bytes, and one more.
func TestLongestEntries(t *testing.T) {
	for size := longestEntry - 2; size <= longestEntry+1; size++ {
		d, s := fresh(t)
		if got := len(form(sized(size))) - len(num(int64(size))); got != size {
			t.Fatalf("an entry of %d bytes has %d", size, got)
		}
		if size > longestEntry {
			wantRefused(t, "Accept", d, s, api.ErrArg, func() api.Errno { return s.Accept(ballot(1, 0), at(0, sized(size))) })
			wantRefused(t, "Choose", d, s, api.ErrArg, func() api.Errno { return s.Choose(at(0, sized(size))) })
			continue
		}
		// With the longest numbers, so that the record is the longest of all.
		b := ballot(latest, 4)
		wantErr(t, "Accept", s.Accept(b, at(0, sized(size)), at(latest, sized(size))), api.OK)
		wantErr(t, "Choose", s.Choose(at(0, sized(size)), at(latest, sized(size))), api.OK)
		wantErr(t, "Checkpoint", s.Checkpoint(1, nil), api.OK)
		want := face{
			promised: b, first: 1, upto: 1, accepted: []api.Slotted{with(latest, b, sized(size))},
			chosen: []api.Slotted{with(latest, api.Ballot{}, sized(size))},
		}
		wantFace(t, "the longest entries", s, want)
		wantReopened(t, "the longest entries", d, s)
	}
}
