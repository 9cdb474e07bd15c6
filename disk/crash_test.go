package disk_test

import (
	"math"
	"testing"

	"orchard/api"
	"orchard/disk"
)

// P2.3: fuses, crashes, restarts.

func TestCrash(t *testing.T) {
	files := []plain{{"a", "hello", 2}, {"b", "world", 5}, {"c", "xyz", 0}, {"d", "", 0}, {"e", "0123456789", 1}}
	cases := []struct {
		keep int
		want []plain
	}{
		{0, []plain{{"a", "he", 2}, {"b", "world", 5}, {"c", "", 0}, {"d", "", 0}, {"e", "0", 1}}},
		{1, []plain{{"a", "hel", 3}, {"b", "world", 5}, {"c", "x", 1}, {"d", "", 0}, {"e", "01", 2}}},
		{2, []plain{{"a", "hell", 4}, {"b", "world", 5}, {"c", "xy", 2}, {"d", "", 0}, {"e", "012", 3}}},
		{3, []plain{{"a", "hello", 5}, {"b", "world", 5}, {"c", "xyz", 3}, {"d", "", 0}, {"e", "0123", 4}}},
		{4, []plain{{"a", "hello", 5}, {"b", "world", 5}, {"c", "xyz", 3}, {"d", "", 0}, {"e", "01234", 5}}},
		{100, []plain{{"a", "hello", 5}, {"b", "world", 5}, {"c", "xyz", 3}, {"d", "", 0}, {"e", "0123456789", 10}}},
		{math.MaxInt, []plain{{"a", "hello", 5}, {"b", "world", 5}, {"c", "xyz", 3}, {"d", "", 0}, {"e", "0123456789", 10}}},
	}
	for _, c := range cases {
		d := laid(t, files...)
		wantErr(t, "Crash", d.Crash(c.keep), api.OK)
		if !d.Down() {
			t.Error("a disk that crashed is up")
		}
		wantFiles(t, "Crash", d, c.want...)
		wantErr(t, "Restart", d.Restart(), api.OK)
		wantFiles(t, "Restart", d, c.want...)
		wantErr(t, "Crash again", d.Crash(0), api.OK)
		wantFiles(t, "Crash again", d, c.want...)
	}
}

func TestCrashWrongly(t *testing.T) {
	d := laid(t, plain{"a", "hello", 2})
	d.SetFuse(4, 1)
	up := look(t, d)
	wantErr(t, "Crash", d.Crash(-1), api.ErrArg)
	wantErr(t, "Crash", d.Crash(math.MinInt), api.ErrArg)
	wantFace(t, "behind ErrArg", d, up)
	d.Crash(1)
	down := look(t, d)
	wantErr(t, "Crash of one that is down", d.Crash(0), api.ErrDown)
	wantErr(t, "Crash of one that is down", d.Crash(9), api.ErrDown)
	wantErr(t, "ErrArg ahead of ErrDown", d.Crash(-1), api.ErrArg)
	wantFace(t, "behind ErrDown", d, down)
}

func TestRestart(t *testing.T) {
	d := laid(t, plain{"a", "hello", 2})
	d.SetFuse(4, 1)
	before := look(t, d)
	wantErr(t, "Restart of one that is up", d.Restart(), api.ErrArg)
	wantFace(t, "behind ErrArg", d, before)
	d.Crash(1)
	wantErr(t, "Restart", d.Restart(), api.OK)
	wantErr(t, "Restart again", d.Restart(), api.ErrArg)
	wantFiles(t, "behind Restart", d, plain{"a", "hel", 3})
	wantErr(t, "Append", d.Append("a", []byte("p")), api.OK)
	wantErr(t, "Sync", d.Sync("a"), api.OK)
	wantFiles(t, "changed behind Restart", d, plain{"a", "help", 4})
}

func TestSetFuseWrongly(t *testing.T) {
	d := laid(t, plain{"a", "hello", 2})
	d.SetFuse(4, 1)
	before := look(t, d)
	for _, c := range [][2]int{{-1, 0}, {0, -1}, {1, -1}, {-1, -1}, {math.MinInt, 5}, {5, math.MinInt}} {
		wantErr(t, "SetFuse", d.SetFuse(c[0], c[1]), api.ErrArg)
	}
	wantFace(t, "behind ErrArg", d, before)
	d.Crash(1)
	wantErr(t, "SetFuse while it is down", d.SetFuse(1, 0), api.ErrDown)
	wantErr(t, "SetFuse to none while it is down", d.SetFuse(0, 0), api.ErrDown)
	wantErr(t, "ErrArg ahead of ErrDown", d.SetFuse(-1, 0), api.ErrArg)
	wantErr(t, "ErrArg ahead of ErrDown", d.SetFuse(0, -1), api.ErrArg)
	d.Restart()
	wantFace(t, "behind ErrDown", d, face{room: 105, used: 3, files: []plain{{"a", "hel", 3}}})
}

func TestSetFuse(t *testing.T) {
	for k := range 6 {
		d := laid(t, plain{"a", "hello", 2})
		wantErr(t, "SetFuse", d.SetFuse(k, 1), api.OK)
		for i := 1; i < k; i++ {
			wantErr(t, "a change ahead of the last one", d.Append("a", []byte("x")), api.OK)
		}
		want := api.ErrDown
		if k == 0 {
			want = api.OK
		}
		wantErr(t, "the last change", d.Append("a", []byte("y")), want)
		if d.Down() != (k > 0) {
			t.Errorf("behind a fuse of %d: Down %v", k, d.Down())
		}
	}
}

func TestSetFuseAnew(t *testing.T) {
	d := laid(t, plain{"a", "hello", 2})
	d.SetFuse(1, 9)
	d.SetFuse(3, 1)
	wantErr(t, "Append", d.Append("a", nil), api.OK)
	wantErr(t, "Append", d.Append("a", nil), api.OK)
	d.SetFuse(2, 2)
	wantErr(t, "Append", d.Append("a", nil), api.OK)
	wantErr(t, "Append", d.Append("a", nil), api.ErrDown)
	wantFiles(t, "the last fuse's keep", d, plain{"a", "hell", 4})
	d.Restart()
	d.SetFuse(1, 0)
	d.SetFuse(0, 0)
	wantErr(t, "without a fuse", d.Append("a", nil), api.OK)
	d.SetFuse(math.MaxInt, math.MaxInt)
	wantErr(t, "with a long fuse", d.Append("a", nil), api.OK)
}

func TestCrashTakesTheFuse(t *testing.T) {
	d := laid(t, plain{"a", "hello", 2})
	d.SetFuse(1, 0)
	d.Crash(9)
	d.Restart()
	wantFace(t, "behind a crash", d, face{room: 105, used: 5, files: []plain{{"a", "hello", 5}}})
	d.SetFuse(1, 0)
	d.Sync("a")
	d.Restart()
	wantFace(t, "behind the fuse's crash", d, face{room: 105, used: 5, files: []plain{{"a", "hello", 5}}})
}

// inMidst is a change that takes the fuse to 0, and what is left of the files.
type inMidst struct {
	call
	keep int
	want []plain
}

func midsts() []inMidst {
	toTail := call{"Append to a tail", func(d *disk.Disk) api.Errno { return d.Append("a", []byte("XY")) }}
	toNew := call{"Append to a new file", func(d *disk.Disk) api.Errno { return d.Append("n", []byte("XY")) }}
	toSynced := call{"Append to a synced file", func(d *disk.Disk) api.Errno { return d.Append("b", []byte("XY")) }}
	ofNothing := call{"Append of nothing", func(d *disk.Disk) api.Errno { return d.Append("n", nil) }}
	sync := call{"Sync", func(d *disk.Disk) api.Errno { return d.Sync("a") }}
	remove := call{"Remove", func(d *disk.Disk) api.Errno { return d.Remove("a") }}
	rename := call{"Rename", func(d *disk.Disk) api.Errno { return d.Rename("a", "n") }}
	over := call{"Rename over another", func(d *disk.Disk) api.Errno { return d.Rename("a", "b") }}
	itself := call{"Rename to itself", func(d *disk.Disk) api.Errno { return d.Rename("a", "a") }}
	two := func(a string) []plain { return []plain{{"a", a, len(a)}, {"b", "world", 5}} }
	return []inMidst{
		{toTail, 0, two("he")},
		{toTail, 1, two("hel")},
		{toTail, 4, two("helloX")},
		{toTail, 9, two("helloXY")},
		{toNew, 0, append(two("he"), plain{"n", "", 0})},
		{toNew, 1, append(two("hel"), plain{"n", "X", 1})},
		{toNew, 9, append(two("hello"), plain{"n", "XY", 2})},
		{toSynced, 0, two("he")},
		{toSynced, 1, []plain{{"a", "hel", 3}, {"b", "worldX", 6}}},
		{toSynced, 9, []plain{{"a", "hello", 5}, {"b", "worldXY", 7}}},
		{ofNothing, 0, append(two("he"), plain{"n", "", 0})},
		{sync, 0, two("he")},
		{sync, 2, two("hell")},
		{sync, 9, two("hello")},
		{remove, 0, two("he")},
		{remove, 9, two("hello")},
		{rename, 0, two("he")},
		{rename, 1, two("hel")},
		{rename, 9, two("hello")},
		{over, 0, two("he")},
		{over, 9, two("hello")},
		{itself, 0, two("he")},
		{itself, 9, two("hello")},
	}
}

func TestCrashInTheMidst(t *testing.T) {
	for _, m := range midsts() {
		for k := 1; k < 4; k++ {
			d := laid(t, plain{"a", "hello", 2}, plain{"b", "world", 5})
			d.SetFuse(k, m.keep)
			for range k - 1 {
				wantErr(t, "a change ahead", d.Sync("b"), api.OK)
			}
			wantErr(t, m.what, m.do(d), api.ErrDown)
			if !d.Down() {
				t.Error(m.what, "does not take the disk down")
			}
			wantFiles(t, m.what+" in its midst", d, m.want...)
			d.Restart()
			wantFiles(t, m.what+" behind Restart", d, m.want...)
		}
	}
}

// TestEachChangeTakesOne: each kind of change takes one from the fuse, and is done where that is not the last one.
func TestEachChangeTakesOne(t *testing.T) {
	for _, m := range midsts() {
		d := laid(t, plain{"a", "hello", 2}, plain{"b", "world", 5})
		d.SetFuse(3, m.keep)
		free := laid(t, plain{"a", "hello", 2}, plain{"b", "world", 5})
		wantErr(t, m.what, m.do(d), api.OK)
		wantErr(t, m.what, m.do(free), api.OK)
		want := look(t, free)
		want.fuse = 2
		wantFace(t, m.what+" with a fuse", d, want)
	}
}

func TestWrongCallsTakeNothingFromTheFuse(t *testing.T) {
	d := laid(t, plain{"a", "hello", 2})
	d.SetFuse(1, 0)
	before := look(t, d)
	wrong := []struct {
		err  api.Errno
		what string
		got  api.Errno
	}{
		{api.ErrFull, "Append of too much", d.Append("a", make([]byte, 101))},
		{api.ErrDiskName, "Append to no name", d.Append("", nil)},
		{api.ErrNone, "Sync", d.Sync("none")},
		{api.ErrDiskName, "Sync of no name", d.Sync("")},
		{api.ErrNone, "Remove", d.Remove("none")},
		{api.ErrDiskName, "Remove of no name", d.Remove("")},
		{api.ErrNone, "Rename", d.Rename("none", "a")},
		{api.ErrDiskName, "Rename to no name", d.Rename("a", "")},
		{api.ErrArg, "SetFuse", d.SetFuse(-1, 0)},
		{api.ErrArg, "Crash", d.Crash(-1)},
		{api.ErrArg, "Restart", d.Restart()},
	}
	for _, w := range wrong {
		wantErr(t, w.what, w.got, w.err)
	}
	wantFace(t, "behind wrong calls", d, before)
	wantErr(t, "the change", d.Sync("a"), api.ErrDown)
}

func TestFullOfFilesTakesNothingFromTheFuse(t *testing.T) {
	d := made(t, 10)
	for i := range api.MaxFiles {
		d.Append(string(rune(i+1)), nil)
	}
	d.SetFuse(1, 0)
	wantErr(t, "one file more", d.Append("more than one rune", nil), api.ErrLong)
	if d.Down() {
		t.Error("ErrLong took from the fuse")
	}
	wantErr(t, "a change", d.Append("a", []byte("x")), api.ErrDown)
}
