package wal_test

import (
	"fmt"
	"math"
	"testing"

	"orchard/api"
	"orchard/disk"
	"orchard/wal"
)

// P5.4: what a log tells, and what is cut.

func TestTellOfNothing(t *testing.T) {
	_, l := fresh(t)
	wantTold(t, "a new log", l, told{})
}

func TestTellAsItGrows(t *testing.T) {
	d, l := fresh(t)
	r := filling(600, "r")
	want := told{}
	for i := range 9 {
		wantAppend(t, "one", l, r)
		want.records = append(want.records, r)
		want.next++
		want.segments = i/2 + 1
		if i%3 == 2 {
			wantErr(t, "Sync", l.Sync(), api.OK)
			want.synced = want.next
		}
		wantTold(t, fmt.Sprintf("%d records", i+1), l, want)
		wantReopened(t, fmt.Sprintf("%d records", i+1), d, l)
	}
}

// TestTellWhileTheDiskIsDown: what is kept is told, whatever the disk is.
func TestTellWhileTheDiskIsDown(t *testing.T) {
	d, l := fresh(t)
	full := filling(1024, "f")
	wantAppend(t, "two", l, full, "a")
	want := tell(t, l)
	wantErr(t, "Crash", d.Crash(0), api.OK)
	wantTold(t, "down", l, want)
	wantErr(t, "Restart", d.Restart(), api.OK)
	wantTold(t, "restarted", l, want)
}

// lastly is a log of the segments 0 (records 0 and 1), 2 (2, 3 and 4) and 5 (5), and its disk.
func lastly(t *testing.T) (*disk.Disk, *wal.Log) {
	t.Helper()
	d, l := fresh(t)
	wantAppend(t, "six", l, "zero", filling(1024, "1"), "two", "three", filling(1024, "4"), "five")
	if l.Segments() != 3 {
		t.Fatal("there are", l.Segments(), "segments")
	}
	return d, l
}

func lastlyFiles() []plain {
	return []plain{safe(seg(0), framed("zero", filling(1024, "1"))), safe(seg(2), framed("two", "three", filling(1024, "4"))), {seg(5), framed("five"), 0}}
}

func lastlyRecords() []string {
	return []string{"zero", filling(1024, "1"), "two", "three", filling(1024, "4"), "five"}
}

func TestCut(t *testing.T) {
	cases := []struct {
		before  int64
		first   int64
		removed int
	}{
		{math.MinInt64, 0, 0}, {-1, 0, 0}, {0, 0, 0}, {1, 0, 0},
		{2, 2, 1}, {3, 2, 1}, {4, 2, 1},
		{5, 5, 2}, {6, 5, 2}, {7, 5, 2}, {highest, 5, 2}, {math.MaxInt64, 5, 2},
	}
	for _, c := range cases {
		for _, again := range []bool{false, true} {
			d, l := lastly(t)
			files := lastlyFiles()
			if again {
				l = opened(t, d)
				files[2] = safe(files[2].name, files[2].all)
			}
			synced := l.Synced()
			what := fmt.Sprintf("Cut(%d), opened again: %v", c.before, again)
			wantChanges(t, what, d, c.removed, func() { wantErr(t, what, l.Cut(c.before), api.OK) })
			want := told{c.first, 6, synced, 3 - c.removed, lastlyRecords()[c.first:]}
			wantTold(t, what, l, want)
			wantFiles(t, what, d, files[c.removed:]...)
			wantReopened(t, what, d, l)
			wantChanges(t, what+" again", d, 0, func() { wantErr(t, what, l.Cut(c.before), api.OK) })
			wantAppend(t, "one more", l, "six")
			wantTold(t, what+", and one more", l, told{c.first, 7, synced, 3 - c.removed, append(want.records, "six")})
			wantReopened(t, what+", and one more", d, l)
		}
	}
}

func TestCutOfFewSegments(t *testing.T) {
	d, l := fresh(t)
	for _, before := range []int64{math.MinInt64, 0, 1, math.MaxInt64} {
		wantChanges(t, "no segment", d, 0, func() { wantErr(t, "Cut", l.Cut(before), api.OK) })
	}
	wantTold(t, "no segment", l, told{})
	wantAppend(t, "two", l, "a", filling(1024, "b"))
	for _, before := range []int64{-1, 0, 1, 2, 3, math.MaxInt64} {
		wantChanges(t, "one segment", d, 0, func() { wantErr(t, "Cut", l.Cut(before), api.OK) })
	}
	wantTold(t, "one segment", l, told{0, 2, 0, 1, []string{"a", filling(1024, "b")}})
}

// TestCutUpToASegmentWithoutRecords: it is the last one, and stays; the number is kept with it.
func TestCutUpToASegmentWithoutRecords(t *testing.T) {
	d := laid(t, safe(seg(3), framed("a", "b")), safe(seg(5), ""))
	l := opened(t, d)
	wantErr(t, "Cut", l.Cut(4), api.OK)
	wantTold(t, "in the midst", l, told{3, 5, 5, 2, []string{"a", "b"}})
	wantErr(t, "Cut", l.Cut(5), api.OK)
	wantTold(t, "all", l, told{5, 5, 5, 1, nil})
	wantFiles(t, "all", d, safe(seg(5), ""))
	wantReopened(t, "all", d, l)
}

// TestCutSyncsNothing: what does not count as synced ahead of a Cut does not behind it.
func TestCutSyncsNothing(t *testing.T) {
	d, l := lastly(t)
	wantErr(t, "Cut", l.Cut(2), api.OK)
	wantTold(t, "cut", l, told{2, 6, 0, 2, lastlyRecords()[2:]})
	wantChanges(t, "Sync", d, 1, func() { wantErr(t, "Sync", l.Sync(), api.OK) })
	wantTold(t, "synced", l, told{2, 6, 6, 2, lastlyRecords()[2:]})
	wantErr(t, "Cut", l.Cut(9), api.OK)
	wantTold(t, "cut again", l, told{5, 6, 6, 1, []string{"five"}})
	wantChanges(t, "Sync of nothing", d, 0, func() { wantErr(t, "Sync", l.Sync(), api.OK) })
}

func TestCutOnADiskThatFalls(t *testing.T) {
	for k := 1; k <= 2; k++ {
		d, l := lastly(t)
		wantErr(t, "Sync", l.Sync(), api.OK)
		d.SetFuse(k, 0)
		wantErr(t, "Cut", l.Cut(9), api.ErrDown)
		first := []int64{0, 2}[k-1]
		want := told{first, 6, 6, 4 - k, lastlyRecords()[first:]}
		wantTold(t, "what was removed is removed", l, want)
		wantErr(t, "Cut while the disk is down", l.Cut(9), api.ErrDown)
		wantErr(t, "Cut of nothing while the disk is down", l.Cut(first+1), api.OK)
		wantTold(t, "down", l, want)
		wantErr(t, "Restart", d.Restart(), api.OK)
		wantReopened(t, "restarted", d, l)
		wantErr(t, "Cut once more", l.Cut(9), api.OK)
		wantAppend(t, "one, as a Cut spoils nothing", l, "six")
		wantTold(t, "cut", l, told{5, 7, 6, 1, []string{"five", "six"}})
	}
}

func TestCutOfAFileThatIsGone(t *testing.T) {
	d, l := lastly(t)
	wantErr(t, "Remove", d.Remove(seg(2)), api.OK)
	wantErr(t, "Cut", l.Cut(9), api.ErrNone)
	wantTold(t, "what was removed is removed", l, told{2, 6, 0, 2, lastlyRecords()[2:]})
	wantFiles(t, "what was removed is removed", d, lastlyFiles()[2])
	wantErr(t, "Sync, as a Cut spoils nothing", l.Sync(), api.OK)
}

// TestCutOfASpoiltLog: it takes no records, but lets go of those that it has.
func TestCutOfASpoiltLog(t *testing.T) {
	d, l := lastly(t)
	d.SetFuse(1, 0)
	wantErr(t, "Sync on a disk that falls", l.Sync(), api.ErrDown)
	wantErr(t, "Cut while the disk is down", l.Cut(2), api.ErrDown)
	wantErr(t, "Restart", d.Restart(), api.OK)
	wantErr(t, "Cut", l.Cut(2), api.OK)
	wantSpoilt(t, "cut", d, l, told{2, 6, 0, 2, lastlyRecords()[2:]})
	wantErr(t, "Cut", l.Cut(9), api.OK)
	wantSpoilt(t, "cut again", d, l, told{5, 6, 0, 1, lastlyRecords()[5:]})
}

// TestCutAndGoOn: a log that is cut as it grows stays short, and counts on.
func TestCutAndGoOn(t *testing.T) {
	d, l := fresh(t)
	r := filling(1024, "r")
	for i := range int64(3 * api.MaxFiles) {
		wantAppend(t, "one", l, r)
		if i%10 == 0 {
			wantErr(t, "Cut", l.Cut(i), api.OK)
			if l.First() != i || l.Segments() != 1 || l.Next() != i+1 {
				t.Fatalf("behind a Cut at %d: first %d, next %d, segments %d", i, l.First(), l.Next(), l.Segments())
			}
		}
	}
	wantErr(t, "Sync", l.Sync(), api.OK)
	wantReopened(t, "cut and gone on", d, l)
}
