package ckpt_test

import (
	"fmt"
	"slices"
	"strings"
	"testing"

	"orchard/api"
	"orchard/ckpt"
	"orchard/disk"
)

// P6.2: a checkpoint is saved.

func encodedOf(p point) string { return encoded(p.slot, p.data) }

func TestSaveOnAnEmptyDisk(t *testing.T) {
	for _, p := range []point{
		{0, "", 0}, {0, "x", 0}, {1, "", 0}, {5, "hello", 0}, {latest - 1, "\x00\xff", 0}, {latest, "", 0},
		{latest, strings.Repeat("y", longest), 0}, {0, strings.Repeat("\x00", longest-1), 0},
	} {
		d := made(t, roomy)
		wantChanges(t, "Save", d, 3, func() { wantErr(t, "Save", save(d, p), api.OK) })
		wantFiles(t, "Save", d, safe(old, encodedOf(p)))
		wantPoint(t, "Load", load(d), p)
		wantPoint(t, "Load behind a crash", load(crashed(t, d, 0)), p)
	}
}

// TestSaveAnew: the new one is longer, shorter, the same; its slot need not be above the old one's.
func TestSaveAnew(t *testing.T) {
	points := []point{{5, "x", 0}, {5, "x", 0}, {9, "", 0}, {10, strings.Repeat("long", 100), 0}, {11, "short", 0}, {3, "lower", 0}, {latest, "", 0}, {0, "", 0}}
	d := made(t, roomy)
	for _, p := range points {
		wantSaved(t, "anew", d, p)
		wantFiles(t, "anew", d, safe(old, encodedOf(p)))
	}
	for _, before := range points {
		for _, p := range points {
			d := laid(t, safe(old, encodedOf(before)))
			wantChanges(t, "Save", d, 3, func() { wantSaved(t, "over another", d, p) })
			wantFiles(t, "over another", d, safe(old, encodedOf(p)))
		}
	}
}

// TestSaveOverWhatIsNone: whatever the file ckpt was, it is looked at by nobody.
func TestSaveOverWhatIsNone(t *testing.T) {
	for _, b := range []string{"", "torn", encoded(-1, "x"), encoded(5, "x")[:4], encoded(5, "x") + "more"} {
		for _, synced := range []int{0, len(b) / 2, len(b)} {
			d := laid(t, plain{old, b, synced})
			wantSaved(t, "over what is none", d, point{9, "y", 0})
			wantFiles(t, "over what is none", d, safe(old, encoded(9, "y")))
		}
	}
}

// spares are files ckpt.new that an earlier Save may have left, and others.
func spares() []plain {
	whole := encoded(7, "left behind")
	return []plain{
		safe(spare, ""), safe(spare, whole), safe(spare, whole[:9]), safe(spare, "no checkpoint"),
		{spare, whole, 0}, {spare, whole, 5}, {spare, "x", 0}, safe(spare, strings.Repeat("z", 2000)),
	}
}

func TestSaveWithASpare(t *testing.T) {
	for _, s := range spares() {
		for _, over := range []bool{false, true} {
			d := laid(t, s)
			if over {
				lay(t, d, safe(old, encoded(5, "x")))
			}
			p := point{9, "yy", 0}
			wantChanges(t, "Save", d, 4, func() { wantErr(t, "Save", save(d, p), api.OK) })
			wantFiles(t, fmt.Sprintf("%v was there", s), d, safe(old, encodedOf(p)))
			wantPoint(t, "Load", load(d), p)
		}
	}
}

// others are files that are no part of a checkpoint, some with names that are nearly one's.
func others() []plain {
	var files []plain
	for _, name := range []string{
		"ckpt.ne", "ckpt.new.", "ckpt.new2", "ckpt.newer", "ckpt.old", "ckpt.", "ckp", "ckpt ", " ckpt", "ckpt2", "CKPT", "CKPT.NEW", "Ckpt.new", "new", ".new",
		"a", "z", "\x00", "\xff", "log.000000000000", "ckpt\x00", "ckpt.new\x00", "a/ckpt.new", strings.Repeat("c", api.MaxFile),
	} {
		files = append(files, plain{name, encoded(int64(len(files)), "of "+name), len(files) % 7})
	}
	slices.SortFunc(files, func(x, y plain) int { return strings.Compare(x.name, y.name) })
	return files
}

func with(files []plain, more ...plain) []plain {
	all := append(slices.Clone(files), more...)
	slices.SortFunc(all, func(x, y plain) int { return strings.Compare(x.name, y.name) })
	return all
}

func TestSaveBesideOthers(t *testing.T) {
	d := laid(t, others()...)
	wantPoint(t, "Load of others", load(d), wrong(api.ErrNone))
	wantChanges(t, "Save", d, 3, func() { wantErr(t, "Save", save(d, point{5, "x", 0}), api.OK) })
	wantFiles(t, "Save", d, with(others(), safe(old, encoded(5, "x")))...)
	lay(t, d, plain{spare, "left behind", 3})
	wantChanges(t, "Save anew", d, 4, func() { wantErr(t, "Save anew", save(d, point{9, "y", 0}), api.OK) })
	wantFiles(t, "Save anew", d, with(others(), safe(old, encoded(9, "y")))...)
	wantPoint(t, "Load", load(d), point{9, "y", 0})
	wantFiles(t, "Load", d, with(others(), safe(old, encoded(9, "y")))...)
}

// TestSaveStepByStep: what the disk has where each change crashes, in the chapter's order.
func TestSaveStepByStep(t *testing.T) {
	const keep = 3
	x, y := encoded(5, "x"), encoded(9, "y")
	cases := []struct {
		what  string
		laid  []plain
		fuse  int
		files []plain
	}{
		{"the Append", nil, 1, []plain{safe(spare, y[:keep])}},
		{"the Sync", nil, 2, []plain{safe(spare, y[:keep])}},
		{"the Rename", nil, 3, []plain{safe(spare, y)}},
		{"the Append over another", []plain{safe(old, x)}, 1, []plain{safe(old, x), safe(spare, y[:keep])}},
		{"the Sync over another", []plain{safe(old, x)}, 2, []plain{safe(old, x), safe(spare, y[:keep])}},
		{"the Rename over another", []plain{safe(old, x)}, 3, []plain{safe(old, x), safe(spare, y)}},
		{"the Remove", []plain{{spare, "left", 0}}, 1, []plain{safe(spare, "lef")}},
		{"the Append behind a Remove", []plain{{spare, "left", 0}}, 2, []plain{safe(spare, y[:keep])}},
		{"the Sync behind a Remove", []plain{{spare, "left", 0}}, 3, []plain{safe(spare, y[:keep])}},
		{"the Rename behind a Remove", []plain{{spare, "left", 0}}, 4, []plain{safe(spare, y)}},
		{"the Remove beside another", []plain{safe(old, x), safe(spare, "left")}, 1, []plain{safe(old, x), safe(spare, "left")}},
		{"the Append beside another", []plain{safe(old, x), safe(spare, "left")}, 2, []plain{safe(old, x), safe(spare, y[:keep])}},
		{"the Sync beside another", []plain{safe(old, x), safe(spare, "left")}, 3, []plain{safe(old, x), safe(spare, y[:keep])}},
		{"the Rename beside another", []plain{safe(old, x), safe(spare, "left")}, 4, []plain{safe(old, x), safe(spare, y)}},
	}
	for _, c := range cases {
		d := laid(t, c.laid...)
		wantErr(t, "SetFuse", d.SetFuse(c.fuse, keep), api.OK)
		wantErr(t, "Save that crashes in "+c.what, save(d, point{9, "y", 0}), api.ErrDown)
		wantFiles(t, "behind a crash in "+c.what, d, c.files...)
	}
}

func TestSaveWithAFuseBehindIt(t *testing.T) {
	d := made(t, roomy)
	wantErr(t, "SetFuse", d.SetFuse(4, 0), api.OK)
	wantErr(t, "Save", save(d, point{5, "x", 0}), api.OK)
	wantErr(t, "Save at the fuse's end", save(d, point{6, "y", 0}), api.ErrDown)
	wantErr(t, "Restart", d.Restart(), api.OK)
	wantPoint(t, "Load", load(d), point{5, "x", 0})
}

func TestSaveWithJustRoom(t *testing.T) {
	for _, p := range []point{{0, "", 0}, {9, "y", 0}, {latest, strings.Repeat("d", 500), 0}} {
		b := encodedOf(p)
		d := made(t, len(b))
		wantSaved(t, "just room", d, p)
		wantFiles(t, "just room", d, safe(old, b))
		d = made(t, len(b)-1)
		wantErr(t, "Save with one byte less", save(d, p), api.ErrFull)
		wantFiles(t, "one byte less", d)
		wantPoint(t, "Load", load(d), wrong(api.ErrNone))
	}
}

// TestSaveWithJustRoomForTwo: for a moment the old one and the new one are both there.
func TestSaveWithJustRoomForTwo(t *testing.T) {
	x, y := encoded(5, "x"), encoded(9, "yyyy")
	for _, beside := range []int{0, 10} {
		for less := range 3 {
			d := made(t, len(x)+len(y)+beside-less)
			lay(t, d, safe(old, x), safe("other", strings.Repeat("o", beside)))
			if less == 0 {
				wantSaved(t, "just room for two", d, point{9, "yyyy", 0})
				continue
			}
			before := look(t, d)
			wantErr(t, "Save with less room", save(d, point{9, "yyyy", 0}), api.ErrFull)
			wantFace(t, "less room", d, before)
			wantPoint(t, "Load", load(d), point{5, "x", 0})
			wantErr(t, "Save of a shorter one", save(d, point{9, "", 0}), api.OK)
		}
	}
}

// TestSaveRemovesFirst: the room of what was left is free again, also where that is not enough.
func TestSaveRemovesFirst(t *testing.T) {
	x, y := encoded(5, "x"), encoded(9, "y")
	left := strings.Repeat("l", 50)
	d := made(t, len(x)+len(left))
	lay(t, d, safe(old, x), safe(spare, left))
	wantSaved(t, "the room of what was left", d, point{9, "y", 0})
	d = made(t, len(x)+len(y)-1)
	lay(t, d, safe(old, x), safe(spare, "l"))
	wantErr(t, "Save without room", save(d, point{9, "y", 0}), api.ErrFull)
	wantFiles(t, "what was left is removed all the same", d, safe(old, x))
	wantPoint(t, "Load", load(d), point{5, "x", 0})
}

// crowd lays so many files, none of which is a checkpoint's.
func crowd(t *testing.T, d *disk.Disk, many int) {
	t.Helper()
	for i := range many {
		wantErr(t, "Append", d.Append(fmt.Sprintf("other%d", i), nil), api.OK)
	}
}

func TestSaveAmongAsManyFilesAsThereMayBe(t *testing.T) {
	p := point{9, "y", 0}
	d := made(t, roomy)
	crowd(t, d, api.MaxFiles-1)
	wantSaved(t, "one file less than the most", d, p)
	wantErr(t, "Save among the most files", save(d, p), api.ErrLong)
	wantPoint(t, "Load", load(d), p)
	d = made(t, roomy)
	crowd(t, d, api.MaxFiles)
	before := look(t, d)
	wantErr(t, "Save without a file more", save(d, p), api.ErrLong)
	wantFace(t, "without a file more", d, before)
	d = made(t, roomy)
	crowd(t, d, api.MaxFiles-1)
	lay(t, d, safe(spare, "left"))
	wantSaved(t, "what was left makes place", d, p)
}

func TestSaveOnADiskThatIsDown(t *testing.T) {
	for _, files := range [][]plain{nil, {safe(old, encoded(5, "x"))}, {safe(old, encoded(5, "x")), safe(spare, "left")}, {safe(spare, "left")}} {
		d := laid(t, files...)
		wantErr(t, "Crash", d.Crash(0), api.OK)
		before := look(t, d)
		for range 2 {
			wantErr(t, "Save on a disk that is down", save(d, point{9, "y", 0}), api.ErrDown)
			wantErr(t, "ErrArg ahead of ErrDown", save(d, point{-1, "y", 0}), api.ErrArg)
			wantErr(t, "ErrLong ahead of ErrDown", ckpt.Save(d, 9, make([]byte, longest+1)), api.ErrLong)
		}
		wantFace(t, "down", d, before)
		wantErr(t, "Restart", d.Restart(), api.OK)
		wantSaved(t, "up again", d, point{9, "y", 0})
	}
}

// TestSaveOfWhatMayNotBe: Encode's errors come ahead of all that is done.
func TestSaveOfWhatMayNotBe(t *testing.T) {
	for _, files := range [][]plain{nil, {safe(old, encoded(5, "x"))}, {safe(old, encoded(5, "x")), {spare, "left", 2}}} {
		d := laid(t, files...)
		wantErr(t, "SetFuse", d.SetFuse(1, 0), api.OK)
		before := look(t, d)
		for _, slot := range badSlots() {
			wantErr(t, "Save of a wrong slot", ckpt.Save(d, slot, []byte("y")), api.ErrArg)
			wantErr(t, "ErrArg ahead of ErrLong", ckpt.Save(d, slot, make([]byte, longest+1)), api.ErrArg)
		}
		for _, slot := range []int64{0, 9, latest} {
			wantErr(t, "Save of too much", ckpt.Save(d, slot, make([]byte, longest+1)), api.ErrLong)
			wantErr(t, "Save of far too much", ckpt.Save(d, slot, make([]byte, api.MaxBytes+1)), api.ErrLong)
		}
		wantFace(t, "what may not be", d, before)
	}
}
