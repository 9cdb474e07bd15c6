package wal_test

import (
	"fmt"
	"slices"
	"testing"

	"orchard/api"
	"orchard/disk"
	"orchard/wal"
)

// P5.5, P5.6: what was synced is there behind any crash, and numbers go on where the records end.

// history is a log with all that was asked to be appended to it, by numbers.
type history struct {
	*wal.Log
	asked []string
}

func begin(t *testing.T, d *disk.Disk) *history {
	t.Helper()
	return &history{Log: opened(t, d)}
}

func (h *history) add(records ...string) api.Errno {
	h.asked = append(h.asked[:h.Next()], records...)
	return h.Append(list(records...)...)
}

// wantKept: a log that was opened behind a crash tells all of h that counted as synced and was not cut, and of what was asked for behind that a beginning.
func (h *history) wantKept(t *testing.T, what string, l *wal.Log) {
	t.Helper()
	got := tell(t, l)
	if got.synced != got.next {
		t.Fatalf("%s: behind Open it is %v", what, got)
	}
	if got.first != h.First() || got.next < max(h.First(), h.Synced()) || got.next > int64(len(h.asked)) {
		t.Fatalf("%s: the log was %v, with %d asked for, and is %v", what, tell(t, h.Log), len(h.asked), got)
	}
	if want := h.asked[got.first:got.next]; !slices.Equal(got.records, want) {
		t.Fatalf("%s: the records are %v, of %q", what, got, want)
	}
}

// wantGoesOn is P5.6: what is appended behind a crash gets the numbers behind the records that are left.
func wantGoesOn(t *testing.T, what string, d *disk.Disk, l *wal.Log) {
	t.Helper()
	want := tell(t, l)
	wantAppend(t, "two behind a crash", l, "behind", "a crash")
	wantErr(t, "Sync", l.Sync(), api.OK)
	got := tell(t, opened(t, crashed(t, d, 0)))
	if got.first != want.first || got.next != want.next+2 || !slices.Equal(got.records, append(want.records, "behind", "a crash")) {
		t.Fatalf("%s: to %v were appended two; now it is %v", what, want, got)
	}
}

// life is what a log goes through: records one and several at a time, over segments, synced and cut. It ends at the first error.
func life(h *history) api.Errno {
	full := filling(1030, "f")
	steps := []func() api.Errno{
		func() api.Errno { return h.add("a") },
		func() api.Errno { return h.add("bb", "ccc") },
		h.Sync,
		func() api.Errno { return h.add("d") },
		func() api.Errno { return h.add(full, "e", "ff") },
		func() api.Errno { return h.Cut(5) },
		h.Sync,
		func() api.Errno { return h.add(full, full, "g") },
		func() api.Errno { return h.Cut(h.Next()) },
		func() api.Errno { return h.add("h") },
		h.Sync,
		func() api.Errno { return h.add("i", "j") },
	}
	for _, step := range steps {
		if err := step(); err != api.OK {
			return err
		}
	}
	return api.OK
}

// furthestKeep is above any tail in a life, with a segment that is not synced and a record behind it.
const furthestKeep = 1100

// TestLifeWithoutACrash: the steps of a life, so that the tests below have what they are to look at.
func TestLifeWithoutACrash(t *testing.T) {
	d := made(t, roomy)
	h := begin(t, d)
	wantChanges(t, "a life", d, 22, func() { wantErr(t, "a life", life(h), api.OK) })
	wantTold(t, "a life", h.Log, told{9, 13, 11, 1, []string{"g", "h", "i", "j"}})
	wantReopened(t, "a life", d, h.Log)
	for keep := range furthestKeep {
		c := crashed(t, d, keep)
		l := opened(t, c)
		h.wantKept(t, fmt.Sprintf("a crash that keeps %d", keep), l)
		wantGoesOn(t, "a crash behind all", c, l)
	}
}

// fall lets a life crash at a change, and is the log as it was, and its disk, restarted.
func fall(t *testing.T, k, keep int) (*history, *disk.Disk) {
	t.Helper()
	d := made(t, roomy)
	h := begin(t, d)
	wantErr(t, "SetFuse", d.SetFuse(k, keep), api.OK)
	wantErr(t, "a life with a crash", life(h), api.ErrDown)
	wantErr(t, "Restart", d.Restart(), api.OK)
	return h, d
}

func TestCrashAtEveryStep(t *testing.T) {
	for k := 1; k <= 22; k++ {
		for keep := range furthestKeep {
			h, d := fall(t, k, keep)
			what := fmt.Sprintf("a crash at %d that keeps %d", k, keep)
			l := opened(t, d)
			h.wantKept(t, what, l)
			files, again := look(t, d), tell(t, l)
			if l.Segments() == 0 {
				again = told{} // Open has removed the only segment, and with it the number in its name.
			}
			wantTold(t, what+", opened again", opened(t, d), again)
			wantFace(t, what+", opened again", d, files)
			wantGoesOn(t, what, d, l)
		}
	}
}

// TestCrashAtEveryStepOfOpen: Open itself crashes, at each of its changes, once and again.
func TestCrashAtEveryStepOfOpen(t *testing.T) {
	for k := 1; k <= 22; k++ {
		for _, keep := range []int{1, 4, 8, 15, 1031, 1038} {
			for j := 1; ; j++ {
				done := false
				for _, rest := range []int{0, 1, 5, 6, 7, 20, 1036, 1037, 1 << 20} {
					h, d := fall(t, k, keep)
					what := fmt.Sprintf("crashes at %d that keeps %d, and at %d of Open that keeps %d", k, keep, j, rest)
					done = wantKeptOverOpen(t, what, h, d, j, rest)
				}
				if done {
					break
				}
			}
		}
	}
}

// wantKeptOverOpen lets an Open crash at the change j, if it has so many, twice; and tells whether it had less.
func wantKeptOverOpen(t *testing.T, what string, h *history, d *disk.Disk, j, keep int) bool {
	t.Helper()
	for range 2 {
		wantErr(t, "SetFuse", d.SetFuse(j, keep), api.OK)
		l, err := wal.Open(d, "log")
		if err == api.OK {
			h.wantKept(t, what, l)
			return true
		}
		wantErr(t, what, err, api.ErrDown)
		wantErr(t, "Restart", d.Restart(), api.OK)
	}
	l := opened(t, d)
	h.wantKept(t, what, l)
	wantGoesOn(t, what, d, l)
	return false
}

// TestCrashOfOpenWithEveryKeep: a torn segment, and all that a crash may keep of its copy.
func TestCrashOfOpenWithEveryKeep(t *testing.T) {
	frames := framed("a", "bb", filling(80, "c"))
	want := told{4, 7, 7, 1, []string{"a", "bb", filling(80, "c")}}
	for j := 1; j <= 4; j++ {
		for keep := range len(frames) + 2 {
			d := laid(t, safe(seg(4), frames+"torn"), safe("new", "left behind"))
			wantErr(t, "SetFuse", d.SetFuse(j, keep), api.OK)
			wantNoLog(t, "a crash in Open", d, "log", api.ErrDown)
			wantErr(t, "Restart", d.Restart(), api.OK)
			wantTold(t, fmt.Sprintf("a crash at %d of Open that keeps %d", j, keep), opened(t, d), want)
			wantFiles(t, "nothing else is left", d, safe(seg(4), frames))
		}
	}
}

// TestSeveralCrashes: logs that live at random, crash, are opened and go on.
func TestSeveralCrashes(t *testing.T) {
	for seed := range uint64(100) {
		s := source(seed)
		d := made(t, roomy)
		h := begin(t, d)
		for range 60 {
			wantErr(t, "SetFuse", d.SetFuse(1+s.below(12), s.below(60)), api.OK)
			for !d.Down() {
				livesOn(h, &s)
			}
			wantErr(t, "Restart", d.Restart(), api.OK)
			l := opened(t, d)
			h.wantKept(t, fmt.Sprintf("seed %d", seed), l)
			h = &history{l, h.asked[:l.Next()]}
		}
	}
}

func livesOn(h *history, s *source) {
	switch s.below(8) {
	case 0, 1:
		h.Sync()
	case 2:
		h.Cut(h.First() + int64(s.below(12)))
	case 3:
		h.add(s.text(200 + s.below(900)))
	case 4:
		h.add(s.text(1+s.below(20)), s.text(1+s.below(200)), s.text(1+s.below(4)))
	default:
		h.add(s.text(1 + s.below(30)))
	}
}
