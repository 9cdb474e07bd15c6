package wal_test

import (
	"fmt"
	"strings"
	"testing"

	"orchard/api"
	"orchard/disk"
	"orchard/wal"
)

// P5.3: records are appended and synced.

// fresh is an empty disk and the log "log" on it.
func fresh(t *testing.T) (*disk.Disk, *wal.Log) {
	t.Helper()
	d := made(t, roomy)
	return d, opened(t, d)
}

func TestAppendOneByOne(t *testing.T) {
	d, l := fresh(t)
	records := []string{"one", "\x00", "three", "\xff\xff", framed("five")}
	for i, r := range records {
		wantChanges(t, "Append of one", d, 1, func() { wantAppend(t, "one", l, r) })
		wantTold(t, "one by one", l, told{0, int64(i + 1), 0, 1, records[:i+1]})
		wantFiles(t, "one by one", d, plain{seg(0), framed(records[:i+1]...), 0})
		wantReopened(t, "one by one", d, l)
	}
}

func TestAppendSeveralAtATime(t *testing.T) {
	for many := range 12 {
		var records []string
		for i := range many {
			records = append(records, strings.Repeat(string(rune('a'+i)), 1+i*i))
		}
		d, l := fresh(t)
		wantChanges(t, "Append of several", d, many, func() { wantAppend(t, "several", l, records...) })
		e, m := fresh(t)
		for _, r := range records {
			wantAppend(t, "one", m, r)
		}
		wantTold(t, "several at a time", l, tell(t, m))
		wantFace(t, "several at a time", d, look(t, e))
		wantReopened(t, "several at a time", d, l)
	}
}

// TestAppendSeveralOverSegments: each record of a call finds its own segment.
func TestAppendSeveralOverSegments(t *testing.T) {
	d, l := fresh(t)
	full, half := filling(1024, "f"), filling(600, "h")
	// 5 Appends, and ahead of each of two new segments a Sync.
	wantChanges(t, "five", d, 7, func() { wantAppend(t, "five", l, full, half, half, "a", "b") })
	wantTold(t, "five", l, told{0, 5, 0, 3, []string{full, half, half, "a", "b"}})
	wantFiles(t, "five", d, safe(seg(0), framed(full)), safe(seg(1), framed(half, half)), plain{seg(3), framed("a", "b"), 0})
	wantReopened(t, "five", d, l)
}

func TestAppendOfNoRecord(t *testing.T) {
	d, l := fresh(t)
	for _, records := range [][][]byte{nil, {}} {
		wantChanges(t, "no record", d, 0, func() { wantErr(t, "Append of none", l.Append(records...), api.OK) })
	}
	wantTold(t, "no record", l, told{})
	wantAppend(t, "a full segment", l, filling(1024, "f"))
	wantChanges(t, "no record", d, 0, func() { wantErr(t, "Append of none", l.Append(), api.OK) })
	wantTold(t, "no record", l, told{0, 1, 0, 1, []string{filling(1024, "f")}})
	wantErr(t, "Crash", d.Crash(0), api.OK)
	wantErr(t, "Append of none while the disk is down", l.Append(), api.OK)
	wantErr(t, "that spoils nothing", l.Append(), api.OK)
	l = opened(t, laid(t, safe(seg(highest), framed("a"))))
	wantErr(t, "Append of none behind the highest number", l.Append(), api.OK)
	l = opened(t, laid(t, safe(seg(highest), framed("a", "b", "c"))))
	wantErr(t, "Append of none above the highest number", l.Append(), api.OK)
}

func TestAppendSegmentBytes(t *testing.T) {
	for bytes := api.SegmentBytes - 3; bytes <= api.SegmentBytes+3; bytes++ {
		for _, again := range []bool{false, true} {
			d, l := fresh(t)
			r := filling(bytes, "r")
			wantAppend(t, "one", l, r)
			if again {
				l = opened(t, d)
			}
			what := fmt.Sprintf("a segment of %d bytes, opened again: %v", bytes, again)
			wantAppend(t, "two", l, "a", "b")
			if bytes < api.SegmentBytes {
				// Its end counts, not what it would become; "a" and "b" have 6 bytes each.
				files := []plain{{seg(0), framed(r, "a", "b"), 0}}
				if bytes+6 >= api.SegmentBytes {
					files = []plain{{seg(0), framed(r, "a"), 0}, {seg(2), framed("b"), 0}}
				}
				wantTold(t, what, l, told{0, 3, l.Synced(), len(files), []string{r, "a", "b"}})
				wantBytes(t, what, d, files...)
				continue
			}
			wantTold(t, what, l, told{0, 3, l.Synced(), 2, []string{r, "a", "b"}})
			wantFiles(t, what, d, safe(seg(0), framed(r)), plain{seg(1), framed("a", "b"), 0})
		}
	}
}

// wantBytes: the files have such bytes, synced or not.
func wantBytes(t *testing.T, what string, d *disk.Disk, want ...plain) {
	t.Helper()
	got := look(t, d).files
	if len(got) != len(want) {
		t.Fatalf("%s: the files are %v, want %v", what, got, want)
	}
	for i := range got {
		if got[i].name != want[i].name || got[i].all != want[i].all {
			t.Errorf("%s: the files are %v, want %v", what, got, want)
		}
	}
}

// TestAppendGrowsAboveSegmentBytes: a record that begins below the limit may go far beyond it.
func TestAppendGrowsAboveSegmentBytes(t *testing.T) {
	d, l := fresh(t)
	long := strings.Repeat("l", longest)
	wantAppend(t, "two", l, filling(1023, "r"), long)
	wantFiles(t, "one segment", d, plain{seg(0), framed(filling(1023, "r"), long), 0})
	wantAppend(t, "two", l, long, long)
	wantFiles(t, "three segments", d, safe(seg(0), framed(filling(1023, "r"), long)), safe(seg(2), framed(long)), plain{seg(3), framed(long), 0})
	wantReopened(t, "three segments", d, l)
}

func TestAppendSyncsTheLastSegment(t *testing.T) {
	full := filling(1024, "f")
	d, l := fresh(t)
	wantAppend(t, "a full segment", l, full)
	wantChanges(t, "a Sync and an Append", d, 2, func() { wantAppend(t, "one", l, "a") })
	wantTold(t, "its records do not count as synced", l, told{0, 2, 0, 2, []string{full, "a"}})
	wantFiles(t, "the segment ahead is synced", d, safe(seg(0), framed(full)), plain{seg(1), framed("a"), 0})
	d, l = fresh(t)
	wantAppend(t, "a full segment", l, full)
	wantErr(t, "Sync", l.Sync(), api.OK)
	wantChanges(t, "nothing was appended since", d, 1, func() { wantAppend(t, "one", l, "a") })
	wantTold(t, "behind a Sync", l, told{0, 2, 1, 2, []string{full, "a"}})
	d = laid(t, safe(seg(0), framed(full)))
	l = opened(t, d)
	wantChanges(t, "nothing was appended since Open", d, 1, func() { wantAppend(t, "one", l, "a") })
	d = laid(t, plain{seg(0), framed(full), 3})
	l = opened(t, d)
	wantChanges(t, "Open has synced it", d, 1, func() { wantAppend(t, "one", l, "a") })
}

func TestAppendOfWrongRecords(t *testing.T) {
	d, l := fresh(t)
	wantAppend(t, "one", l, "one")
	before, files := tell(t, l), look(t, d)
	long := strings.Repeat("x", longest+1)
	for _, wrong := range []string{"", long, strings.Repeat("x", 1<<20), strings.Repeat("x", 1<<20+1)} {
		wantErr(t, "alone", l.Append(list(wrong)...), api.ErrRecord)
		wantErr(t, "first", l.Append(list(wrong, "a", "b")...), api.ErrRecord)
		wantErr(t, "among others", l.Append(list("a", wrong, "b")...), api.ErrRecord)
		wantErr(t, "last", l.Append(list("a", "b", wrong)...), api.ErrRecord)
	}
	wantErr(t, "nil", l.Append(nil, []byte("a")), api.ErrRecord)
	wantErr(t, "nil behind another", l.Append([]byte("a"), nil), api.ErrRecord)
	wantTold(t, "behind ErrRecord", l, before)
	wantFace(t, "behind ErrRecord", d, files)
	wantErr(t, "Sync is not spoilt by that", l.Sync(), api.OK)
	most := strings.Repeat("x", longest)
	wantAppend(t, "the longest record, and the shortest one", l, most, "y")
	wantTold(t, "the longest record", l, told{0, 3, 1, 2, []string{"one", most, "y"}})
	wantReopened(t, "the longest record", d, l)
}

func TestAppendOfTooHighNumbers(t *testing.T) {
	d := laid(t, safe(seg(highest-2), ""))
	l := opened(t, d)
	before := look(t, d)
	wantErr(t, "four", l.Append(list("a", "b", "c", "d")...), api.ErrLong)
	wantErr(t, "ErrRecord ahead of ErrLong", l.Append(list("a", "b", "c", "")...), api.ErrRecord)
	wantTold(t, "behind ErrLong", l, told{highest - 2, highest - 2, highest - 2, 1, nil})
	wantFace(t, "behind ErrLong", d, before)
	wantAppend(t, "one", l, "a")
	wantErr(t, "three", l.Append(list("b", "c", "d")...), api.ErrLong)
	wantAppend(t, "two", l, filling(1024, "b"), "c")
	wantTold(t, "up to the highest number", l, told{highest - 2, highest + 1, highest - 2, 2, []string{"a", filling(1024, "b"), "c"}})
	wantFiles(t, "up to the highest number", d, safe(seg(highest-2), framed("a", filling(1024, "b"))), plain{seg(highest), framed("c"), 0})
	wantErr(t, "one more", l.Append(list("d")...), api.ErrLong)
	wantErr(t, "Sync is not spoilt by that", l.Sync(), api.OK)
	wantErr(t, "one more, still", l.Append(list("d")...), api.ErrLong)
	wantErr(t, "an empty one more", l.Append(list("")...), api.ErrRecord)
	wantReopened(t, "up to the highest number", d, l)
	wantErr(t, "one more, opened again", opened(t, d).Append(list("d")...), api.ErrLong)
}

// wantSpoilt: the log takes nothing more, whatever it is asked, and tells what it told.
func wantSpoilt(t *testing.T, what string, d *disk.Disk, l *wal.Log, want told) {
	t.Helper()
	before := look(t, d)
	wantTold(t, what, l, want)
	wantErr(t, what+": Append", l.Append(list("more")...), api.ErrSpoilt)
	wantErr(t, what+": Append of none", l.Append(), api.ErrSpoilt)
	wantErr(t, what+": ErrSpoilt ahead of ErrRecord", l.Append(list("")...), api.ErrSpoilt)
	wantErr(t, what+": Sync", l.Sync(), api.ErrSpoilt)
	wantErr(t, what+": Sync again", l.Sync(), api.ErrSpoilt)
	wantTold(t, what+", asked again", l, want)
	wantFace(t, what+", asked again", d, before)
}

func TestAppendWithoutRoom(t *testing.T) {
	for room := range len(framed("a", "bb", "ccc")) {
		d := made(t, room)
		l := opened(t, d)
		var fit []string
		for _, r := range []string{"a", "bb", "ccc"} {
			if len(framed(append(fit, r)...)) > room {
				break
			}
			fit = append(fit, r)
		}
		wantErr(t, "Append of three", l.Append(list("a", "bb", "ccc", "d")...), api.ErrFull)
		want := told{0, int64(len(fit)), 0, min(1, len(fit)), fit}
		if len(fit) == 0 {
			wantFiles(t, "without room", d)
		} else {
			wantFiles(t, "without room", d, plain{seg(0), framed(fit...), 0})
		}
		wantSpoilt(t, fmt.Sprintf("room for %d", room), d, l, want)
		wantReopened(t, "without room", d, l)
	}
}

// TestAppendWithoutRoomForANewSegment: the last one is synced, and there is none behind it.
func TestAppendWithoutRoomForANewSegment(t *testing.T) {
	full := filling(1024, "f")
	d := made(t, 1026)
	l := opened(t, d)
	wantErr(t, "Append of two", l.Append(list(full, "a")...), api.ErrFull)
	wantFiles(t, "without room", d, safe(seg(0), framed(full)))
	wantSpoilt(t, "without room", d, l, told{0, 1, 0, 1, []string{full}})
}

func TestAppendWithoutAFileMore(t *testing.T) {
	full := filling(1024, "f")
	d, l := fresh(t)
	for i := 1; i < api.MaxFiles; i++ {
		wantErr(t, "Append", d.Append(fmt.Sprintf("other%d", i), nil), api.OK)
	}
	wantErr(t, "Append of two", l.Append(list(full, "a")...), api.ErrLong)
	wantErr(t, "Remove", d.Remove("other1"), api.OK)
	wantSpoilt(t, "MaxFiles files", d, l, told{0, 1, 0, 1, []string{full}})
	l = opened(t, d)
	wantAppend(t, "one, opened again", l, "a")
	wantTold(t, "opened again", l, told{0, 2, 1, 2, []string{full, "a"}})
}

// TestAppendOnADiskThatFalls: the fuse at each change of an Append; what came ahead stays appended.
func TestAppendOnADiskThatFalls(t *testing.T) {
	full := filling(1024, "f")
	records := []string{"b", full, "c", full, "d"}
	all := append([]string{"a"}, records...)
	// A: Append, S: Sync ahead of a new segment.
	for k, step := range "AASAASA" {
		for _, keep := range []int{0, 3, 2000} {
			d, l := fresh(t)
			wantAppend(t, "one", l, "a")
			wantErr(t, "Sync", l.Sync(), api.OK)
			d.SetFuse(k+1, keep)
			wantErr(t, "Append on a disk that falls", l.Append(list(records...)...), api.ErrDown)
			done := 1 + strings.Count("AASAASA"[:k], "A")
			want := told{0, int64(done), 1, 1 + strings.Count("AASAASA"[:k], "SA"), all[:done]}
			what := fmt.Sprintf("a fall at %d (%c) that keeps %d", k+1, step, keep)
			wantSpoilt(t, what+", down", d, l, want)
			wantErr(t, "Restart", d.Restart(), api.OK)
			wantSpoilt(t, what+", restarted", d, l, want)
		}
	}
}

func TestAppendOnADiskThatIsDown(t *testing.T) {
	for _, r := range []string{"a", filling(1024, "f")} {
		for _, synced := range []bool{false, true} {
			d, l := fresh(t)
			wantAppend(t, "one", l, r)
			want := told{0, 1, 0, 1, []string{r}}
			if synced {
				wantErr(t, "Sync", l.Sync(), api.OK)
				want.synced = 1
			}
			wantErr(t, "Crash", d.Crash(0), api.OK)
			wantErr(t, "ErrRecord ahead of the disk's error", l.Append(list("x", "")...), api.ErrRecord)
			wantErr(t, "Append while the disk is down", l.Append(list("x", "y")...), api.ErrDown)
			wantSpoilt(t, "down", d, l, want)
		}
	}
	d, l := fresh(t)
	wantErr(t, "Crash", d.Crash(0), api.OK)
	wantErr(t, "Append while the disk is down", l.Append(list("x")...), api.ErrDown)
	wantSpoilt(t, "down, empty", d, l, told{})
}

func TestSync(t *testing.T) {
	d, l := fresh(t)
	wantChanges(t, "Sync of nothing", d, 0, func() { wantErr(t, "Sync of nothing", l.Sync(), api.OK) })
	wantTold(t, "nothing", l, told{})
	wantAppend(t, "two", l, "a", "b")
	wantChanges(t, "Sync", d, 1, func() { wantErr(t, "Sync", l.Sync(), api.OK) })
	wantTold(t, "two", l, told{0, 2, 2, 1, []string{"a", "b"}})
	wantFiles(t, "two", d, safe(seg(0), framed("a", "b")))
	wantChanges(t, "Sync again", d, 0, func() { wantErr(t, "Sync again", l.Sync(), api.OK) })
	wantAppend(t, "one", l, "c")
	wantTold(t, "one more", l, told{0, 3, 2, 1, []string{"a", "b", "c"}})
	wantTold(t, "behind a crash", opened(t, crashed(t, d, 0)), told{0, 2, 2, 1, []string{"a", "b"}})
	wantChanges(t, "Sync of one more", d, 1, func() { wantErr(t, "Sync", l.Sync(), api.OK) })
	wantTold(t, "behind a crash", opened(t, crashed(t, d, 0)), told{0, 3, 3, 1, []string{"a", "b", "c"}})
}

// TestSyncOfSeveralSegments: those that were synced within an Append are not synced again.
func TestSyncOfSeveralSegments(t *testing.T) {
	full := filling(1024, "f")
	d, l := fresh(t)
	wantAppend(t, "four", l, full, full, full, "a")
	wantTold(t, "ahead of Sync", l, told{0, 4, 0, 4, []string{full, full, full, "a"}})
	wantChanges(t, "Sync", d, 1, func() { wantErr(t, "Sync", l.Sync(), api.OK) })
	wantTold(t, "behind Sync", l, told{0, 4, 4, 4, []string{full, full, full, "a"}})
	wantFiles(t, "behind Sync", d, safe(seg(0), framed(full)), safe(seg(1), framed(full)), safe(seg(2), framed(full)), safe(seg(3), framed("a")))
	l = opened(t, d)
	wantChanges(t, "Sync behind Open", d, 0, func() { wantErr(t, "Sync", l.Sync(), api.OK) })
}

func TestSyncOnADiskThatFalls(t *testing.T) {
	for _, keep := range []int{0, 3, 1000} {
		d, l := fresh(t)
		wantAppend(t, "two", l, "a", "b")
		wantErr(t, "Sync", l.Sync(), api.OK)
		wantAppend(t, "one", l, "c")
		d.SetFuse(1, keep)
		wantErr(t, "Sync on a disk that falls", l.Sync(), api.ErrDown)
		wantSpoilt(t, "down", d, l, told{0, 3, 2, 1, []string{"a", "b", "c"}})
		wantErr(t, "Restart", d.Restart(), api.OK)
		wantSpoilt(t, "restarted", d, l, told{0, 3, 2, 1, []string{"a", "b", "c"}})
	}
}

func TestSyncOnADiskThatIsDown(t *testing.T) {
	d, l := fresh(t)
	wantAppend(t, "one", l, "a")
	wantErr(t, "Sync", l.Sync(), api.OK)
	d.Crash(0)
	wantErr(t, "Sync of nothing while the disk is down", l.Sync(), api.OK)
	d.Restart()
	wantAppend(t, "one", l, "b")
	d.Crash(9)
	wantErr(t, "Sync while the disk is down", l.Sync(), api.ErrDown)
	wantSpoilt(t, "down", d, l, told{0, 2, 1, 1, []string{"a", "b"}})
}

// TestSyncOfAFileThatIsGone: any error of the disk spoils the log.
func TestSyncOfAFileThatIsGone(t *testing.T) {
	d, l := fresh(t)
	wantAppend(t, "one", l, "a")
	wantErr(t, "Remove", d.Remove(seg(0)), api.OK)
	wantErr(t, "Sync", l.Sync(), api.ErrNone)
	wantSpoilt(t, "gone", d, l, told{0, 1, 0, 1, []string{"a"}})
}
