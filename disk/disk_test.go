package disk_test

import (
	"math"
	"slices"
	"testing"

	"orchard/api"
	"orchard/disk"
)

// P2.1: a disk, its room, what is used, whether it is down; P2.4: names and clones.

func TestNew(t *testing.T) {
	for _, room := range []int{0, 1, 10, api.MaxBytes, math.MaxInt} {
		wantFace(t, "New", made(t, room), face{room: room})
	}
	for _, room := range []int{-1, -10, math.MinInt} {
		d, err := disk.New(room)
		if d != nil || err != api.ErrArg {
			t.Errorf("New of %d: %v, error %d", room, d, err)
		}
	}
}

func TestDisksAreApart(t *testing.T) {
	a, b := made(t, 10), made(t, 10)
	a.Append("a", []byte("hello"))
	a.SetFuse(1, 0)
	wantFace(t, "the other disk", b, face{room: 10})
	a.Crash(0)
	wantFace(t, "the other disk behind a crash", b, face{room: 10})
}

func TestUsed(t *testing.T) {
	d := made(t, 100)
	wantUsed := func(what string, want int) {
		t.Helper()
		if got := d.Used(); got != want || d.Room() != 100 {
			t.Errorf("%s: Used %d, want %d; Room %d", what, got, want, d.Room())
		}
	}
	d.Append("a", []byte("hello"))
	wantUsed("one file", 5)
	d.Append("b", []byte("xyz"))
	wantUsed("two files", 8)
	d.Append("a", []byte("12"))
	wantUsed("more in one", 10)
	d.Sync("a")
	wantUsed("one synced", 10)
	d.Append("c", nil)
	wantUsed("one without bytes", 10)
	d.Rename("b", "d")
	wantUsed("renamed", 10)
	d.Rename("d", "d")
	wantUsed("renamed to itself", 10)
	d.Append("b", []byte("1234"))
	wantUsed("three with bytes", 14)
	d.Rename("d", "b")
	wantUsed("renamed over another", 10)
	d.Crash(1)
	wantUsed("behind a crash", 8)
	d.Restart()
	d.Remove("a")
	wantUsed("one removed", 1)
	d.Remove("b")
	wantUsed("all bytes removed", 0)
}

func TestDown(t *testing.T) {
	d := laid(t, plain{"a", "hello", 3})
	if d.Down() {
		t.Error("a new disk is down")
	}
	d.Crash(1)
	if !d.Down() || d.Used() != 4 || d.Room() != 105 {
		t.Error("a disk that is down answers", d.Down(), d.Used(), d.Room())
	}
	if got := slices.Collect(d.Names()); !slices.Equal(got, []string{"a"}) {
		t.Error("the names of a disk that is down:", got)
	}
	if c := d.Clone(); c == nil || !c.Down() || c.Used() != 4 {
		t.Error("the clone of a disk that is down:", c)
	}
	d.Restart()
	if d.Down() {
		t.Error("it is down behind Restart")
	}
}

func TestNames(t *testing.T) {
	d := made(t, 10)
	want := []string{"\x00", "\x00a", " ", "A", "B", "Z", "a", "a\x00", "aa", "ab", "b", "z", "\x7f", "\x80", "é", "\xff", "\xff\xff"}
	if !slices.IsSorted(want) {
		t.Fatal("the names of this test do not rise")
	}
	if got := slices.Collect(d.Names()); len(got) != 0 {
		t.Error("the names of an empty disk:", got)
	}
	for i := range want {
		// Seven and the number of names have no common divisor: each is put once, in no order of theirs.
		d.Append(want[i*7%len(want)], nil)
	}
	for range 20 {
		if got := slices.Collect(d.Names()); !slices.Equal(got, want) {
			t.Fatalf("the names are %q, want %q", got, want)
		}
	}
	d.Remove("aa")
	d.Rename("b", "\xfe")
	got := slices.Collect(d.Names())
	want = []string{"\x00", "\x00a", " ", "A", "B", "Z", "a", "a\x00", "ab", "z", "\x7f", "\x80", "é", "\xfe", "\xff", "\xff\xff"}
	if !slices.Equal(got, want) {
		t.Errorf("the names are %q, want %q", got, want)
	}
}

func TestClone(t *testing.T) {
	disks := []struct {
		what string
		make func() *disk.Disk
	}{
		{"an empty one", func() *disk.Disk { return made(t, 0) }},
		{"one with files", func() *disk.Disk { return laid(t, plain{"a", "hello", 3}, plain{"b", "", 0}, plain{"c", "xyz", 3}) }},
		{"one that is down", func() *disk.Disk { return fallen(t, 1, plain{"a", "hello", 3}) }},
		{"one with a fuse", func() *disk.Disk {
			d := laid(t, plain{"a", "hello", 3})
			d.SetFuse(3, 1)
			return d
		}},
		{"one with a fuse that has burnt", func() *disk.Disk {
			d := laid(t, plain{"a", "hello", 3})
			d.SetFuse(3, 1)
			d.Append("b", nil)
			return d
		}},
	}
	for _, c := range disks {
		d := c.make()
		want := look(t, c.make())
		wantFace(t, "the clone of "+c.what, d.Clone(), want)
		wantFace(t, "the clone of a clone of "+c.what, d.Clone().Clone(), want)
		wantFace(t, "behind a clone "+c.what, d, want)
	}
}

func TestCloneHasTheFusesKeep(t *testing.T) {
	d := laid(t, plain{"a", "hello", 2})
	d.SetFuse(1, 2)
	c := d.Clone()
	wantErr(t, "Sync", c.Sync("a"), api.ErrDown)
	wantFiles(t, "the clone", c, plain{"a", "hell", 4})
	wantFiles(t, "the disk", d, plain{"a", "hello", 2})
	wantErr(t, "Sync", d.Sync("a"), api.ErrDown)
	wantFiles(t, "the disk", d, plain{"a", "hell", 4})
}

// ownWays are changes that must not be seen in the other one of a disk and its clone.
func ownWays() []call {
	return []call{
		{"Append to a tail", func(d *disk.Disk) api.Errno { return d.Append("a", []byte("more")) }},
		{"Append to a synced file", func(d *disk.Disk) api.Errno { return d.Append("c", []byte("more")) }},
		{"Append to a new file", func(d *disk.Disk) api.Errno { return d.Append("n", []byte("more")) }},
		{"Sync and Append", func(d *disk.Disk) api.Errno { d.Sync("a"); return d.Append("a", []byte("more")) }},
		{"Remove", func(d *disk.Disk) api.Errno { return d.Remove("a") }},
		{"Rename", func(d *disk.Disk) api.Errno { return d.Rename("a", "c") }},
		{"Crash", func(d *disk.Disk) api.Errno { return d.Crash(1) }},
		{"Crash, Restart and Append", func(d *disk.Disk) api.Errno {
			d.Crash(1)
			d.Restart()
			return d.Append("a", []byte("more"))
		}},
		{"SetFuse", func(d *disk.Disk) api.Errno { return d.SetFuse(1, 1) }},
		{"SetFuse to none", func(d *disk.Disk) api.Errno { return d.SetFuse(0, 0) }},
	}
}

func TestCloneGoesItsOwnWay(t *testing.T) {
	for _, w := range ownWays() {
		d := laid(t, plain{"a", "hello", 3}, plain{"c", "xyz", 3})
		d.SetFuse(7, 0)
		c := d.Clone()
		before := look(t, d)
		wantErr(t, w.what, w.do(c), api.OK)
		wantFace(t, w.what+" at the clone, seen at the disk", d, before)
		c = d.Clone()
		wantErr(t, w.what, w.do(d), api.OK)
		wantFace(t, w.what+" at the disk, seen at the clone", c, before)
		if look(t, d).same(before) {
			t.Error(w.what, "changes nothing")
		}
	}
	d := fallen(t, 0, plain{"a", "hello", 3})
	c := d.Clone()
	wantErr(t, "Restart of the clone", c.Restart(), api.OK)
	if !d.Down() || c.Down() {
		t.Error("Restart of the clone: disk, clone down:", d.Down(), c.Down())
	}
}

// TestCloneAppendsApart: a disk and its clone append to what was one file, by turns.
func TestCloneAppendsApart(t *testing.T) {
	d := laid(t, plain{"a", "hello", 3})
	c := d.Clone()
	for range 8 {
		d.Append("a", []byte("d"))
		c.Append("a", []byte("c"))
		d.Sync("a")
		c.Sync("a")
	}
	wantFiles(t, "the disk", d, plain{"a", "hellodddddddd", 13})
	wantFiles(t, "the clone", c, plain{"a", "hellocccccccc", 13})
}
