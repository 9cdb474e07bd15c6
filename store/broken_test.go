package store_test

import (
	"fmt"
	"strconv"
	"testing"

	"orchard/api"
	"orchard/disk"
	"orchard/store"
)

// P9.2: a store whose disk has answered an error.

// call is something that is asked of a store, and how often it changes the disk.
type call struct {
	what    string
	changes int
	do      func(s *store.Store) api.Errno
}

// calls are asked of the store of full, each for itself.
func calls() []call {
	return []call{
		{"Prepare", 2, func(s *store.Store) api.Errno { _, err := s.Prepare(ballot(9, 1), 0); return err }},
		{"Accept of none", 2, func(s *store.Store) api.Errno { return s.Accept(ballot(9, 1)) }},
		{"Accept", 2, func(s *store.Store) api.Errno { return s.Accept(ballot(7, 2), at(6, sample(2))) }},
		{"Accept of several", 6, func(s *store.Store) api.Errno {
			return s.Accept(ballot(9, 1), at(4, sample(2)), at(40, bulky(1200)), at(10, sample(3)), at(3, sample(5)))
		}},
		{"Choose", 1, func(s *store.Store) api.Errno { return s.Choose(at(6, sample(2))) }},
		{"Choose of several", 6, func(s *store.Store) api.Errno {
			return s.Choose(at(7, sample(2)), at(4, sample(4)), at(9, bulky(1200)), at(1, sample(2)), at(6, sample(3)), at(11, bulky(30)), at(12, named(3)))
		}},
		{"Checkpoint", 3 + 7 + 1, func(s *store.Store) api.Errno { return s.Checkpoint(5, []byte("checkpoint")) }},
		{"Install", 3 + 3 + 1, func(s *store.Store) api.Errno { return s.Install(8, []byte("installed")) }},
	}
}

// long is a disk like full's, whose log has several segments, so that a checkpoint cuts some.
func long(t *testing.T) *disk.Disk {
	t.Helper()
	first := []string{promise(ballot(1, 0)), chosen(0, sample(0)), chosen(1, bulky(1100))}
	second := []string{chosen(2, bulky(1100))}
	third := []string{promise(ballot(7, 2))}
	x := fullFace()
	for _, a := range x.accepted {
		third = append(third, accepted(a.Slot, a.Ballot, a.Entry))
	}
	for _, c := range x.chosen {
		third = append(third, chosen(c.Slot, c.Entry))
	}
	return laid(t, ckptFile(3, "state"), safe(seg(0), framed(first...)), safe(seg(3), framed(second...)), safe(seg(4), framed(third...)))
}

// wantBroken: it says so, tells what it told before, and answers ErrBroken to all that is asked of it, whatever the arguments.
func wantBroken(t *testing.T, what string, d *disk.Disk, s *store.Store, before face) {
	t.Helper()
	before.broken = true
	wantFace(t, what, s, before)
	there := files(t, d)
	for _, c := range calls() {
		wantErr(t, what+", then "+c.what, c.do(s), api.ErrBroken)
	}
	for _, b := range append(noBallots(), before.promised, ballot(1, 0), ballot(latest, 4)) {
		for _, slot := range append(noSlots(), 0, 4) {
			wantErr(t, what+", then Prepare", refusedPrepare(t, s, b, slot)(), api.ErrBroken)
			wantErr(t, what+", then Accept", s.Accept(b, at(slot, api.Entry{Kind: 9}), at(slot, sample(1))), api.ErrBroken)
		}
		wantErr(t, what+", then Accept of none", s.Accept(b), api.ErrBroken)
	}
	wantErr(t, what+", then Choose of none", s.Choose(), api.ErrBroken)
	wantErr(t, what+", then Choose of what clashes", s.Choose(at(4, sample(1))), api.ErrBroken)
	for _, slot := range append(noSlots(), 0, 3, 4, 7) {
		wantErr(t, what+", then Checkpoint", s.Checkpoint(slot, make([]byte, longestState+1)), api.ErrBroken)
		wantErr(t, what+", then Install", s.Install(slot, make([]byte, longestState+1)), api.ErrBroken)
	}
	wantFace(t, what+", and all that was asked then", s, before)
	wantFiles(t, what+", and all that was asked then", d, there...)
}

func TestBrokenByACrash(t *testing.T) {
	for _, c := range calls() {
		d := full(t)
		s := opened(t, d)
		wantChanges(t, c.what, d, c.changes, func() { wantErr(t, c.what, c.do(s), api.OK) })
		if s.Broken() {
			t.Errorf("%s: broken without an error", c.what)
		}
		for k := 1; k <= c.changes; k++ {
			d := full(t)
			s := opened(t, d)
			wantErr(t, "SetFuse", d.SetFuse(k, 5), api.OK)
			what := fmt.Sprintf("%s with a crash at %d", c.what, k)
			wantErr(t, what, c.do(s), api.ErrDown)
			wantBroken(t, what, d, s, fullFace())
			wantErr(t, "Restart", d.Restart(), api.OK)
			wantBroken(t, what+", restarted", d, s, fullFace())
		}
	}
}

// TestBrokenByACut: the crash comes when what is old is removed; the checkpoint is there, and is not told.
func TestBrokenByACut(t *testing.T) {
	for k := 1; k <= 2; k++ {
		d := long(t)
		s := opened(t, d)
		wantFace(t, "a long log", s, fullFace())
		want := fullFace().behind(6, "six")
		changes := 3 + len(want.left()) + 1
		wantErr(t, "SetFuse", d.SetFuse(changes+k, 0), api.OK)
		wantErr(t, "Checkpoint", s.Checkpoint(6, []byte("six")), api.ErrDown)
		wantBroken(t, "Checkpoint", d, s, fullFace())
		wantErr(t, "Restart", d.Restart(), api.OK)
		wantFace(t, "opened again", opened(t, d), want)
	}
}

func TestBrokenByADiskThatIsDown(t *testing.T) {
	for _, c := range calls() {
		d := full(t)
		s := opened(t, d)
		wantErr(t, "Crash", d.Crash(0), api.OK)
		wantErr(t, c.what, c.do(s), api.ErrDown)
		wantBroken(t, c.what+" of a disk that is down", d, s, fullFace())
	}
}

// TestBrokenByADiskWithoutRoom: at each number of bytes that is too small, what is written of it is a beginning.
func TestBrokenByADiskWithoutRoom(t *testing.T) {
	for _, c := range calls() {
		enough := 0
		for room := 0; enough < 3; room++ {
			d := full(t)
			d = narrowed(t, d, d.Used()+room)
			s := opened(t, d)
			err := c.do(s)
			what := c.what + " with room for " + strconv.Itoa(room)
			if err == api.OK {
				enough++
				wantReopened(t, what, d, s)
				continue
			}
			if enough > 0 {
				t.Fatalf("%s: error %d, and there was enough with less", what, err)
			}
			wantErr(t, what, err, api.ErrFull)
			if room < 10 || room%64 == 0 {
				wantBroken(t, what, d, s, fullFace())
			}
			behind := opened(t, d)
			if behind.Broken() || below(behind.Promised(), ballot(7, 2)) {
				t.Errorf("%s: opened again it is %v", what, look(t, behind))
			}
		}
	}
}

// narrowed is a disk of the same files, all synced, with another room.
func narrowed(t *testing.T, d *disk.Disk, room int) *disk.Disk {
	t.Helper()
	n := made(t, room)
	for _, f := range files(t, d) {
		lay(t, n, safe(f.name, f.all))
	}
	return n
}

// TestBrokenByTooManyFiles: the disk's ErrLong, where a segment or a checkpoint would be one more.
func TestBrokenByTooManyFiles(t *testing.T) {
	crowd := func(d *disk.Disk) *disk.Disk {
		for i := 0; len(files(t, d)) < api.MaxFiles; i++ {
			for j := range 100 {
				d.Append("file"+strconv.Itoa(i*100+j), nil)
			}
		}
		return d
	}
	d := crowd(full(t))
	s := opened(t, d)
	wantErr(t, "Checkpoint", s.Checkpoint(4, nil), api.ErrLong)
	wantBroken(t, "Checkpoint", d, s, fullFace())
	d = crowd(made(t, roomy))
	s = opened(t, d)
	wantErr(t, "Prepare", refusedPrepare(t, s, ballot(1, 0), 0)(), api.ErrLong)
	if !s.Broken() || s.Promised() != (api.Ballot{}) {
		t.Errorf("Prepare with too many files: %v", look(t, s))
	}
}

// TestBrokenByALogAtItsEnd: where no number is left for a record, nothing can be kept any more.
func TestBrokenByALogAtItsEnd(t *testing.T) {
	d := laid(t, safe(seg(999_999_999_999), framed(promise(ballot(1, 0)))))
	s := opened(t, d)
	wantPrepare(t, "the same ballot", s, ballot(1, 0), 0)
	wantErr(t, "Accept", s.Accept(ballot(1, 0), at(0, sample(1))), api.ErrLong)
	wantFace(t, "Accept", s, face{promised: ballot(1, 0), broken: true})
}

// TestBrokenByARecordThatIsTooLong: Open takes an entry that chapter 4 takes, but wal does not take it again.
func TestBrokenByARecordThatIsTooLong(t *testing.T) {
	d := logged(t, accepted(5, ballot(1, 0), sized(1<<17)), chosen(0, sample(1)))
	s := opened(t, d)
	before := look(t, s)
	wantErr(t, "Checkpoint", s.Checkpoint(1, []byte("one")), api.ErrRecord)
	want := before
	want.broken = true
	wantFace(t, "Checkpoint", s, want)
	wantFace(t, "opened again", opened(t, d), before.behind(1, "one"))
}

// TestRefusedIsNotBroken: errors of arguments break nothing.
func TestRefusedIsNotBroken(t *testing.T) {
	d := full(t)
	s := opened(t, d)
	wantErr(t, "Prepare", refusedPrepare(t, s, ballot(0, 0), 0)(), api.ErrArg)
	wantErr(t, "Prepare", refusedPrepare(t, s, ballot(1, 0), 0)(), api.ErrLow)
	wantErr(t, "Accept", s.Accept(ballot(9, 0), at(0, sample(1))), api.ErrSlot)
	wantErr(t, "Choose", s.Choose(at(3, sample(1))), api.ErrClash)
	wantErr(t, "Checkpoint", s.Checkpoint(3, nil), api.ErrSlot)
	wantErr(t, "Install", s.Install(7, make([]byte, longestState+1)), api.ErrLong)
	wantFace(t, "refused", s, fullFace())
	for _, c := range calls() {
		s := opened(t, full(t))
		wantErr(t, "Choose", s.Choose(at(3, sample(1))), api.ErrClash)
		wantErr(t, c.what, c.do(s), api.OK)
	}
}
