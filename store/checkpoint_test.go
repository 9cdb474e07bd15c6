package store_test

import (
	"fmt"
	"math"
	"strings"
	"testing"

	"orchard/api"
	"orchard/disk"
	"orchard/store"
)

// P9.2: Checkpoint and Install.

// behind is what a store is behind a checkpoint.
func (x face) behind(slot int64, data string) face {
	x.first, x.data = slot, data
	x.accepted, x.chosen = since(x.accepted, slot), since(x.chosen, slot)
	x.upto = slot + int64(len(rowOf(x.chosen, slot)))
	return x
}

// left are the records that a checkpoint appends: those of the face behind it.
func (x face) left() []string {
	var l []string
	if x.promised != (api.Ballot{}) {
		l = append(l, promise(x.promised))
	}
	for _, a := range x.accepted {
		l = append(l, accepted(a.Slot, a.Ballot, a.Entry))
	}
	for _, c := range x.chosen {
		l = append(l, chosen(c.Slot, c.Entry))
	}
	return l
}

// advance is Checkpoint, or Install, by where the slot stands.
func advance(s *store.Store, slot int64, data string) api.Errno {
	if slot <= s.Upto() {
		return s.Checkpoint(slot, []byte(data))
	}
	return s.Install(slot, []byte(data))
}

// TestCheckpointWritesWhatIsLeft: the checkpoint; then what is left, in order, behind what is there; all of it is synced.
func TestCheckpointWritesWhatIsLeft(t *testing.T) {
	for _, slot := range []int64{4, 5, 6, 7, 8, 9, 10, 40, latest} {
		d := full(t)
		s := opened(t, d)
		before := files(t, d)
		want := fullFace().behind(slot, "data")
		what := fmt.Sprintf("a checkpoint at %d", slot)
		changes := 3 + len(want.left()) + 1
		wantChanges(t, what, d, changes, func() { wantErr(t, what, advance(s, slot, "data"), api.OK) })
		wantFiles(t, what, d, ckptFile(slot, "data"), safe(seg(0), before[1].all+framed(want.left()...)))
		wantFace(t, what, s, want)
		wantReopened(t, what, d, s)
		wantFace(t, what+", behind a crash", opened(t, crashed(t, d, 0)), want)
	}
}

// TestCheckpointSyncsTheLog: also where nothing is left to append.
func TestCheckpointSyncsTheLog(t *testing.T) {
	d, s := fresh(t)
	wantErr(t, "Choose", s.Choose(at(0, sample(1)), at(1, sample(2))), api.OK)
	wantChanges(t, "a checkpoint", d, 4, func() { wantErr(t, "a checkpoint", s.Checkpoint(2, nil), api.OK) })
	wantFiles(t, "a checkpoint", d, ckptFile(2, ""), safe(seg(0), framed(chosen(0, sample(1)), chosen(1, sample(2)))))
	wantFace(t, "a checkpoint", s, face{first: 2, upto: 2})
	wantReopened(t, "a checkpoint", d, s)
}

func TestInstallInAnEmptyStore(t *testing.T) {
	for _, slot := range []int64{1, 2, latest - 1, latest} {
		d, s := fresh(t)
		wantChanges(t, "Install", d, 3, func() { wantErr(t, "Install", s.Install(slot, []byte("data")), api.OK) })
		wantFiles(t, "Install", d, ckptFile(slot, "data"))
		wantFace(t, "Install", s, face{first: slot, upto: slot, data: "data"})
		wantReopened(t, "Install", d, s)
	}
}

// TestCheckpointCutsTheLog: the segments that have only what stood there ahead of it are removed, but never the last one.
func TestCheckpointCutsTheLog(t *testing.T) {
	d, s := fresh(t)
	b, big := ballot(1, 0), bulky(1200) // each big one fills a segment
	wantErr(t, "Accept", s.Accept(b, at(0, big), at(1, big)), api.OK)
	wantErr(t, "Choose", s.Choose(at(0, big)), api.OK)
	wantErr(t, "Choose", s.Choose(at(1, sample(7)), at(2, sample(8))), api.OK)
	want := look(t, s).behind(1, "one")
	// The promise goes to the last segment, with the records 3 and 4; behind it what is accepted fills that one, so that what is chosen begins another one.
	wantChanges(t, "Checkpoint", d, 3+4+2+3, func() { wantErr(t, "Checkpoint", s.Checkpoint(1, []byte("one")), api.OK) })
	wantFiles(t, "Checkpoint", d, ckptFile(1, "one"),
		safe(seg(3), framed(chosen(1, sample(7)), chosen(2, sample(8)), promise(b), accepted(1, b, big))),
		safe(seg(7), framed(chosen(1, sample(7)), chosen(2, sample(8)))))
	wantFace(t, "Checkpoint", s, want)
	wantReopened(t, "Checkpoint", d, s)
}

// TestCheckpointThatLeavesNothing: the last segment stays.
func TestCheckpointThatLeavesNothing(t *testing.T) {
	d, s := fresh(t)
	wantErr(t, "Choose", s.Choose(at(0, bulky(1200)), at(1, bulky(1300)), at(2, bulky(1400))), api.OK)
	wantChanges(t, "Checkpoint", d, 3+1+2, func() { wantErr(t, "Checkpoint", s.Checkpoint(3, nil), api.OK) })
	wantFiles(t, "Checkpoint", d, ckptFile(3, ""), safe(seg(2), framed(chosen(2, bulky(1400)))))
	wantFace(t, "Checkpoint", s, face{first: 3, upto: 3})
	wantReopened(t, "Checkpoint", d, s)
}

// TestCheckpointsKeepTheDiskSmall: with one again and again, the disk does not grow.
func TestCheckpointsKeepTheDiskSmall(t *testing.T) {
	d := made(t, 40_000)
	s := opened(t, d)
	for i := range int64(400) {
		wantErr(t, "Accept", s.Accept(ballot(1+i/10, 2), at(i, bulky(300))), api.OK)
		wantErr(t, "Choose", s.Choose(at(i, bulky(300))), api.OK)
		if i%16 == 15 {
			wantErr(t, "Checkpoint", s.Checkpoint(i+1, []byte(strings.Repeat("s", 1000))), api.OK)
		}
	}
	if len(files(t, d)) > 3 {
		t.Errorf("there are %d files", len(files(t, d)))
	}
	wantFace(t, "400 slots", s, face{promised: ballot(40, 2), first: 400, upto: 400, data: strings.Repeat("s", 1000)})
	wantReopened(t, "400 slots", d, s)
}

// TestCheckpointOverWhatIsLeftBehind: a file ckpt.new of another time is removed first, as ckpt says.
func TestCheckpointOverWhatIsLeftBehind(t *testing.T) {
	d, s := fresh(t)
	lay(t, d, safe("ckpt.new", "left behind"))
	wantChanges(t, "Install", d, 4, func() { wantErr(t, "Install", s.Install(3, []byte("x")), api.OK) })
	wantFiles(t, "Install", d, ckptFile(3, "x"))
}

func TestCheckpointRefused(t *testing.T) {
	d := full(t) // First is 3, Upto 6
	s := opened(t, d)
	for _, data := range [][]byte{nil, []byte("data"), make([]byte, longestState), make([]byte, longestState+1)} {
		for _, slot := range append(noSlots(), 0, 1, 2, 3, 7, 8, 9, latest) {
			wantRefused(t, fmt.Sprintf("Checkpoint(%d)", slot), d, s, api.ErrSlot, func() api.Errno { return s.Checkpoint(slot, data) })
		}
		for _, slot := range append(noSlots(), 0, 1, 2, 3, 4, 5, 6) {
			wantRefused(t, fmt.Sprintf("Install(%d)", slot), d, s, api.ErrSlot, func() api.Errno { return s.Install(slot, data) })
		}
	}
	long := make([]byte, longestState+1)
	for slot := int64(4); slot <= 6; slot++ {
		wantRefused(t, "Checkpoint of long data", d, s, api.ErrLong, func() api.Errno { return s.Checkpoint(slot, long) })
	}
	for _, slot := range []int64{7, 8, latest} {
		wantRefused(t, "Install of long data", d, s, api.ErrLong, func() api.Errno { return s.Install(slot, long) })
	}
	wantErr(t, "Checkpoint of data that is just as long", s.Checkpoint(6, long[1:]), api.OK)
	wantFace(t, "the longest data", s, fullFace().behind(6, string(long[1:])))
	wantErr(t, "Install of data that is just as long", s.Install(7, long[1:]), api.OK)
	wantFace(t, "the longest data", s, fullFace().behind(7, string(long[1:])))
	wantReopened(t, "the longest data", d, s)
}

// TestOneCheckpointBehindAnother: each takes the place of the one ahead of it, with data of any length.
func TestOneCheckpointBehindAnother(t *testing.T) {
	d := full(t)
	s := opened(t, d)
	want := fullFace()
	for i, slot := range []int64{4, 5, 6, 7, 20, latest} {
		data := strings.Repeat("d", (7*i)%5)
		want = want.behind(slot, data)
		wantErr(t, "a checkpoint", advance(s, slot, data), api.OK)
		wantFace(t, "a checkpoint", s, want)
		wantReopened(t, "a checkpoint", d, s)
	}
	wantRefused(t, "none is above the last one", d, s, api.ErrSlot, func() api.Errno { return s.Install(latest+1, nil) })
}

// TestInstallReachesWhatIsChosen: entries that are chosen from its slot on count on.
func TestInstallReachesWhatIsChosen(t *testing.T) {
	d, s := fresh(t)
	for _, slot := range []int64{0, 4, 5, 7, 8, 9, 11} {
		wantErr(t, "Choose", s.Choose(at(slot, sample(int(slot)))), api.OK)
	}
	for _, row := range [][2]int64{{3, 3}, {4, 6}, {7, 10}, {12, 12}} {
		want := look(t, s).behind(row[0], "x")
		if want.upto != row[1] {
			t.Fatalf("behind %d upto is %d", row[0], want.upto)
		}
		wantErr(t, "Install", s.Install(row[0], []byte("x")), api.OK)
		wantFace(t, "Install", s, want)
		wantReopened(t, "Install", d, s)
	}
	wantErr(t, "Choose goes on", s.Choose(at(12, sample(3))), api.OK)
	wantFace(t, "Choose goes on", s, face{first: 12, upto: 13, data: "x", chosen: []api.Slotted{with(12, api.Ballot{}, sample(3))}})
}

// TestWhatIsBelowACheckpoint: it is gone, is taken no more, and clashes with nothing.
func TestWhatIsBelowACheckpoint(t *testing.T) {
	d := full(t)
	s := opened(t, d)
	wantErr(t, "Checkpoint", s.Checkpoint(5, nil), api.OK)
	for slot := range int64(5) {
		wantRefused(t, "Accept", d, s, api.ErrSlot, func() api.Errno { return s.Accept(ballot(9, 0), at(slot, sample(1))) })
		wantRefused(t, "Choose", d, s, api.OK, func() api.Errno { return s.Choose(at(slot, named(9))) })
	}
	wantPrepare(t, "from 0", s, ballot(9, 0), 0, since(fullFace().accepted, 5)...)
	want := fullFace().behind(5, "")
	want.promised = ballot(9, 0)
	wantFace(t, "below a checkpoint", s, want)
}

// TestPromiseIsWrittenAnew: where the log's beginning, with the promise, is cut off, it is not lost; a zero one is not written.
func TestPromiseIsWrittenAnew(t *testing.T) {
	d, s := fresh(t)
	wantPrepare(t, "a promise", s, ballot(5, 3), 0)
	wantErr(t, "Choose", s.Choose(at(0, bulky(1200))), api.OK)
	wantErr(t, "Checkpoint", s.Checkpoint(1, nil), api.OK)
	wantFiles(t, "Checkpoint", d, ckptFile(1, ""), safe(seg(2), framed(promise(ballot(5, 3)))))
	wantFace(t, "behind a crash", opened(t, crashed(t, d, 0)), face{promised: ballot(5, 3), first: 1, upto: 1})
}

// TestPromiseOfWhatIsCutOff: a ballot that only records of slots below the checkpoint tell is promised, whether the log was cut already or the crash came ahead of that.
func TestPromiseOfWhatIsCutOff(t *testing.T) {
	changes := 3 + 1 + 1 // the checkpoint's; the promise; its Sync
	for k := 1; k <= changes+1; k++ {
		for _, keep := range []int{0, 1, 1 << 20} {
			d, s := fresh(t)
			wantErr(t, "Accept", s.Accept(ballot(5, 3), at(0, sample(1))), api.OK)
			wantErr(t, "Choose", s.Choose(at(0, sample(1))), api.OK)
			wantErr(t, "SetFuse", d.SetFuse(k, keep), api.OK)
			err := s.Checkpoint(1, []byte("one"))
			if (err == api.OK) != (k > changes) {
				t.Errorf("a crash at %d: error %d", k, err)
			}
			if d.Down() {
				wantErr(t, "Restart", d.Restart(), api.OK)
			}
			if got := opened(t, d); got.Promised() != ballot(5, 3) {
				t.Errorf("a crash at %d that keeps %d: %v", k, keep, look(t, got))
			}
		}
	}
}

// atTheEnd is a store, and its disk, in which the last slot of all is chosen, so that Upto is no slot.
func atTheEnd(t *testing.T, first int64) (*disk.Disk, *store.Store) {
	t.Helper()
	d, s := fresh(t)
	wantErr(t, "Install", s.Install(first, []byte("end")), api.OK)
	wantErr(t, "Accept", s.Accept(ballot(4, 1), at(latest, sample(2))), api.OK)
	for slot := first; slot <= latest; slot++ {
		wantErr(t, "Choose", s.Choose(at(slot, sample(7))), api.OK)
	}
	if s.Upto() != latest+1 {
		t.Fatalf("Upto is %d", s.Upto())
	}
	return d, s
}

// TestCheckpointBehindTheLastSlot: it is not above Upto, so that ckpt's word counts; by that the store is not broken.
func TestCheckpointBehindTheLastSlot(t *testing.T) {
	for _, first := range []int64{latest, latest - 1} {
		d, s := atTheEnd(t, first)
		check := func(what string) {
			t.Helper()
			for _, data := range [][]byte{nil, []byte("data"), make([]byte, longestState)} {
				wantRefused(t, what+", ErrArg", d, s, api.ErrArg, func() api.Errno { return s.Checkpoint(latest+1, data) })
			}
			long := make([]byte, longestState+1)
			wantRefused(t, what+", ErrLong", d, s, api.ErrLong, func() api.Errno { return s.Checkpoint(latest+1, long) })
			for _, slot := range []int64{latest + 2, math.MaxInt64, first, -1, math.MinInt64} {
				wantRefused(t, what+", ErrSlot", d, s, api.ErrSlot, func() api.Errno { return s.Checkpoint(slot, long) })
			}
			for _, slot := range []int64{latest, latest + 1, latest + 2, math.MaxInt64} {
				wantRefused(t, what+", Install", d, s, api.ErrSlot, func() api.Errno { return s.Install(slot, nil) })
			}
		}
		check("at the end")
		s = opened(t, d)
		check("at the end, opened again")
		wantErr(t, "Accept goes on", s.Accept(ballot(4, 2), at(latest, sample(3))), api.OK)
		wantReopened(t, "Accept goes on", d, s)
	}
	d, s := atTheEnd(t, latest-1)
	want := look(t, s).behind(latest, "last")
	wantErr(t, "behind the last slot", s.Checkpoint(latest+1, nil), api.ErrArg)
	wantErr(t, "at the last slot", s.Checkpoint(latest, []byte("last")), api.OK)
	wantFace(t, "at the last slot", s, want)
	wantReopened(t, "at the last slot", d, s)
}

// TestCheckpointBehindTheLastSlotOfADiskThatIsDown: the disk is not asked, and does not break the store.
func TestCheckpointBehindTheLastSlotOfADiskThatIsDown(t *testing.T) {
	d, s := atTheEnd(t, latest-1)
	before := look(t, s)
	wantErr(t, "Crash", d.Crash(0), api.OK)
	wantErr(t, "behind the last slot", s.Checkpoint(latest+1, nil), api.ErrArg)
	wantFace(t, "behind the last slot", s, before)
	wantErr(t, "at the last slot", s.Checkpoint(latest, nil), api.ErrDown)
	wantErr(t, "of a store that is broken", s.Checkpoint(latest+1, nil), api.ErrBroken)
	before.broken = true
	wantFace(t, "of a store that is broken", s, before)
}

// TestCheckpointsFirstErrors: R2, ErrSlot ahead of ErrLong ahead of the disk's.
func TestCheckpointsFirstErrors(t *testing.T) {
	d := full(t)
	s := opened(t, d)
	long := make([]byte, longestState+1)
	wantErr(t, "Crash", d.Crash(0), api.OK)
	wantErr(t, "ErrSlot", s.Checkpoint(3, long), api.ErrSlot)
	wantErr(t, "ErrSlot", s.Checkpoint(math.MinInt64, long), api.ErrSlot)
	wantErr(t, "ErrSlot", s.Install(6, long), api.ErrSlot)
	wantErr(t, "ErrSlot", s.Install(latest+1, long), api.ErrSlot)
	wantErr(t, "ErrLong", s.Checkpoint(4, long), api.ErrLong)
	wantErr(t, "ErrLong", s.Install(7, long), api.ErrLong)
	wantFace(t, "refused", s, fullFace())
	wantErr(t, "the disk's", s.Checkpoint(4, long[1:]), api.ErrDown)
	wantErr(t, "ErrBroken", s.Checkpoint(3, long), api.ErrBroken)
	wantErr(t, "ErrBroken", s.Install(latest+1, long), api.ErrBroken)
}
