package ckpt_test

import (
	"fmt"
	"strings"
	"testing"

	"orchard/api"
	"orchard/disk"
)

// P6.4: a checkpoint is switched in one step, whatever crashes. P6.5: what a Save costs.

// begins are disks as a Save may find them.
func begins() [][]plain {
	x := encoded(5, "x")
	var all [][]plain
	for _, at := range [][]plain{nil, {safe(old, x)}, {safe(old, encoded(6, strings.Repeat("long", 30)))}, {safe(old, "spoilt")}, {safe(old, "")}} {
		all = append(all, at, with(at, plain{"other", "beside it", 4}))
		for _, s := range spares() {
			all = append(all, with(at, s))
		}
	}
	return all
}

// wantOneOfTwo: what is loaded is the checkpoint of before or the new one, and the new one, if that was saved; and so it stays.
func wantOneOfTwo(t *testing.T, what string, d *disk.Disk, before, p point, saved api.Errno) {
	t.Helper()
	got := load(d)
	if got != p && (got != before || saved == api.OK) {
		t.Fatalf("%s: Save: error %d; Load: %v; it was %v, and was to be %v", what, saved, got, before, p)
	}
	wantPoint(t, what+": Load again", load(d), got)
	wantPoint(t, what+": Load behind one crash more", load(crashed(t, d, 0)), got)
}

// fall saves on a disk that crashes at a change; restarted, it is looked at.
func fall(t *testing.T, files []plain, p point, k, keep int) {
	t.Helper()
	d := laid(t, files...)
	before := load(d.Clone())
	wantErr(t, "SetFuse", d.SetFuse(k, keep), api.OK)
	saved := save(d, p)
	if saved == api.OK && !d.Down() {
		wantErr(t, "Crash", d.Crash(keep), api.OK)
	} else {
		wantErr(t, "Save on a disk that falls", saved, api.ErrDown)
	}
	wantErr(t, "Restart", d.Restart(), api.OK)
	what := fmt.Sprintf("on %v, a crash at %d that keeps %d", files, k, keep)
	wantOneOfTwo(t, what, d.Clone(), before, p, saved)
	// The next Save may come without a Load between.
	wantErr(t, what+": the next Save", save(d, point{11, "next", 0}), api.OK)
	wantPoint(t, what+": the next one", load(d), point{11, "next", 0})
}

func TestCrashAtEveryStep(t *testing.T) {
	for _, files := range begins() {
		for _, p := range []point{{9, "y", 0}, {latest, strings.Repeat("new", 20), 0}} {
			for k := 1; k <= 5; k++ {
				for keep := range len(encodedOf(p)) + 3 {
					fall(t, files, p, k, keep)
				}
			}
		}
	}
}

func TestCrashOfTheLongest(t *testing.T) {
	p := point{9, strings.Repeat("y", longest), 0}
	n := len(encodedOf(p))
	for k := 1; k <= 5; k++ {
		for _, keep := range []int{0, 1, 4, n / 2, n - 4, n - 1, n, n + 1} {
			fall(t, []plain{safe(old, encoded(5, strings.Repeat("x", longest))), safe(spare, "left")}, p, k, keep)
		}
	}
}

// TestCrashesInOneSaveAfterAnother: a Save that crashes, again and again, at each of its changes, and a Load that does so, too.
func TestCrashesInOneSaveAfterAnother(t *testing.T) {
	for first := 1; first <= 4; first++ {
		for second := 1; second <= 4; second++ {
			for keep := range 12 {
				d := laid(t, safe(old, encoded(5, "x")))
				what := fmt.Sprintf("crashes at %d and %d that keep %d", first, second, keep)
				now := point{5, "x", 0}
				for i, k := range []int{first, second, first} {
					p := point{int64(6 + i), "more", 0}
					wantErr(t, "SetFuse", d.SetFuse(k, keep), api.OK)
					saved := save(d, p)
					if !d.Down() {
						wantErr(t, "Crash", d.Crash(keep), api.OK)
					}
					wantErr(t, "Restart", d.Restart(), api.OK)
					wantOneOfTwo(t, what, d.Clone(), now, p, saved)
					now = load(d.Clone())
				}
				wantErr(t, "SetFuse", d.SetFuse(1, keep), api.OK)
				load(d)
				if d.Down() {
					wantErr(t, "Restart", d.Restart(), api.OK)
				}
				wantPoint(t, what+", and in Load", load(d), now)
			}
		}
	}
}

// TestSeveralCrashes: checkpoints that are saved and loaded at random, on disks that fall and are nearly full.
func TestSeveralCrashes(t *testing.T) {
	for seed := range uint64(200) {
		s := source(seed)
		d := made(t, []int{roomy, 60, 90}[s.below(3)])
		now := wrong(api.ErrNone)
		for i := range 100 {
			what := fmt.Sprintf("seed %d, step %d", seed, i)
			wantErr(t, "SetFuse", d.SetFuse(s.below(9), s.below(50)), api.OK)
			p := point{int64(s.next()) << 8, s.text(s.below(40)), 0}
			saved := save(d, p)
			if d.Down() {
				wantErr(t, "Restart", d.Restart(), api.OK)
			}
			wantOneOfTwo(t, what, d.Clone(), now, p, saved)
			now = load(d.Clone())
			if s.below(3) == 0 {
				load(d)
				if d.Down() {
					wantErr(t, "Restart", d.Restart(), api.OK)
				}
				wantPoint(t, what+": behind a Load", load(d.Clone()), now)
			}
		}
	}
}

// P6.5.

func wantOneCheckpoint(t *testing.T, what string, d *disk.Disk, p point) {
	t.Helper()
	found := 0
	for _, f := range look(t, d).files {
		if f.name == old && f == safe(old, encodedOf(p)) {
			found++
		} else if strings.HasPrefix(f.name, "ckpt") {
			t.Errorf("%s: there is %v", what, f)
		}
	}
	if found != 1 {
		t.Errorf("%s: there are %d checkpoints", what, found)
	}
}

func TestWhatASaveCosts(t *testing.T) {
	for _, files := range begins() {
		for _, p := range []point{{0, "", 0}, {9, "y", 0}, {latest, strings.Repeat("new", 300), 0}} {
			d := laid(t, files...)
			beside := 0
			changes := 3
			for _, f := range files {
				switch f.name {
				case "other":
					beside = len(f.all)
				case spare:
					changes = 4
				}
			}
			used := d.Used()
			what := fmt.Sprintf("Save on %v", files)
			wantChanges(t, what, d, changes, func() { wantErr(t, what, save(d, p), api.OK) })
			if grown := d.Used() - used; grown > len(encodedOf(p)) {
				t.Errorf("%s: Used has grown by %d, above %d", what, grown, len(encodedOf(p)))
			}
			if d.Used() != beside+len(encodedOf(p)) {
				t.Errorf("%s: Used is %d, want %d", what, d.Used(), beside+len(encodedOf(p)))
			}
			wantOneCheckpoint(t, what, d, p)
		}
	}
}

// TestWhatACrashedSaveCosts: also of one that comes to no end, and of one that fills the room.
func TestWhatACrashedSaveCosts(t *testing.T) {
	p := point{9, "yyy", 0}
	for _, files := range begins() {
		for k := 1; k <= 4; k++ {
			for keep := range len(encodedOf(p)) + 2 {
				d := laid(t, files...)
				used := d.Used()
				d.SetFuse(k, keep)
				save(d, p)
				if grown := d.Used() - used; grown > len(encodedOf(p)) {
					t.Errorf("a crash at %d that keeps %d: Used has grown by %d, above %d", k, keep, grown, len(encodedOf(p)))
				}
			}
		}
		used := laid(t, files...).Used()
		d := made(t, used+len(encodedOf(p)))
		lay(t, d, files...)
		wantSaved(t, fmt.Sprintf("with just room for one more, on %v", files), d, p)
	}
}

// TestManySavesLeaveOne: nothing gathers on the disk.
func TestManySavesLeaveOne(t *testing.T) {
	s := source(8)
	d := made(t, 400)
	for i := range 500 {
		p := point{int64(i), s.text(s.below(150)), 0}
		wantErr(t, "Save", save(d, p), api.OK)
		wantOneCheckpoint(t, "many Saves", d, p)
	}
}
