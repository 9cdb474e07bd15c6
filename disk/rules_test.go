package disk_test

import (
	"maps"
	"slices"
	"testing"

	"orchard/api"
	"orchard/disk"
)

// R2: the error that the chapter names first, zero values beside it, nothing changed; R3: nothing is shared; R5: disks that no call made; R6: the same calls answer the same.

func TestDisksThatNoCallMade(t *testing.T) {
	for _, d := range []*disk.Disk{nil, {}} {
		for _, name := range []string{"a", "", longName(api.MaxFile + 1)} {
			for _, c := range asks(name) {
				wantErr(t, c.what, c.do(d), api.ErrMade)
			}
		}
		wantErr(t, "Append of nothing", d.Append("a", nil), api.ErrMade)
		for _, k := range []int{-1, 0, 1} {
			wantErr(t, "SetFuse", d.SetFuse(k, k), api.ErrMade)
			wantErr(t, "Crash", d.Crash(k), api.ErrMade)
		}
		wantErr(t, "Restart", d.Restart(), api.ErrMade)
		if d.Used() != 0 || d.Room() != 0 || d.Down() || d.Clone() != nil {
			t.Error("a disk that no call made answers", d.Used(), d.Room(), d.Down(), d.Clone())
		}
		names := d.Names()
		if names == nil {
			t.Fatal("there is no iterator of the names")
		}
		for name := range names {
			t.Errorf("a disk that no call made has %q", name)
		}
	}
}

func TestZeroDiskStaysSo(t *testing.T) {
	d := &disk.Disk{}
	d.Append("a", []byte("x"))
	d.SetFuse(1, 1)
	d.Crash(0)
	d.Restart()
	if d.Down() || d.Used() != 0 || d.Append("a", nil) != api.ErrMade {
		t.Error("a zero disk has become another one")
	}
}

func TestZeroValuesBesideErrors(t *testing.T) {
	up := laid(t, plain{"a", "hello", 3})
	down := fallen(t, 9, plain{"a", "hello", 3})
	cases := []struct {
		d    *disk.Disk
		name string
		err  api.Errno
	}{
		{nil, "a", api.ErrMade},
		{&disk.Disk{}, "a", api.ErrMade},
		{down, "a", api.ErrDown},
		{down, "", api.ErrDown},
		{up, "", api.ErrDiskName},
		{up, longName(api.MaxFile + 1), api.ErrDiskName},
		{up, "none", api.ErrNone},
	}
	for _, c := range cases {
		b, err := c.d.Read(c.name)
		if len(b) != 0 || err != c.err {
			t.Errorf("Read of %q: %q, error %d, want %d", c.name, b, err, c.err)
		}
		n, synced, err := c.d.Size(c.name)
		if n != 0 || synced != 0 || err != c.err {
			t.Errorf("Size of %q: %d, %d, error %d, want %d", c.name, n, synced, err, c.err)
		}
	}
}

func TestBytesHandedInAreNotKept(t *testing.T) {
	d := made(t, 100)
	b := []byte("hello, and more")[:5]
	d.Append("a", b)
	copy(b[:cap(b)], "XXXXXXXXXXXXXXX")
	wantFiles(t, "a new file", d, plain{"a", "hello", 0})
	b = []byte("12345")
	d.Append("a", b)
	clear(b)
	wantFiles(t, "a file that was there", d, plain{"a", "hello12345", 0})
	d.Sync("a")
	clear(b)
	wantFiles(t, "synced", d, plain{"a", "hello12345", 10})
}

func TestBytesHandedInAreNotChanged(t *testing.T) {
	d := made(t, 100)
	all := []byte("hello, and more")
	d.Append("a", all[:5])
	d.Append("a", []byte("XXXX"))
	d.Sync("a")
	d.Append("a", []byte("YYYY"))
	d.Crash(1)
	if string(all) != "hello, and more" {
		t.Errorf("what was handed in is now %q", all)
	}
}

func TestBytesAnsweredAreNobodyElses(t *testing.T) {
	for _, synced := range []int{0, 3, 5} {
		d := laid(t, plain{"a", "hello", synced})
		b, _ := d.Read("a")
		again, _ := d.Read("a")
		clear(b[:cap(b)])
		wantFiles(t, "behind a write to what was read", d, plain{"a", "hello", synced})
		if string(again) != "hello" {
			t.Errorf("two reads share their bytes: %q", again)
		}
		d.Append("a", []byte("X"))
		d.Crash(0)
		d.Restart()
		d.Append("a", []byte("YYYYYYYY"))
		if string(again) != "hello" {
			t.Errorf("what was read has changed with the file: %q", again)
		}
		_ = append(again, "ZZZZ"...)
		wantFiles(t, "behind an append to what was read", d, plain{"a", "hello"[:synced] + "YYYYYYYY", synced})
	}
}

func TestNamesOfTheMoment(t *testing.T) {
	d := laid(t, plain{"a", "1", 0}, plain{"b", "2", 0}, plain{"c", "3", 0})
	names := d.Names()
	d.Append("aa", nil)
	d.Remove("c")
	d.Rename("b", "z")
	want := []string{"a", "b", "c"}
	for range 2 {
		if got := slices.Collect(names); !slices.Equal(got, want) {
			t.Errorf("the names are %q, want %q", got, want)
		}
	}
	d.Crash(0)
	if got := slices.Collect(names); !slices.Equal(got, want) {
		t.Errorf("behind a crash the names are %q, want %q", got, want)
	}
	want = []string{"a", "aa", "z"}
	if got := slices.Collect(d.Names()); !slices.Equal(got, want) {
		t.Errorf("asked anew the names are %q, want %q", got, want)
	}
}

func TestNamesWhileTheDiskIsChanged(t *testing.T) {
	d := laid(t, plain{"a", "1", 0}, plain{"b", "2", 0}, plain{"c", "3", 0})
	names := d.Names()
	var got []string
	for name := range names {
		got = append(got, name)
		wantErr(t, "Remove", d.Remove(name), api.OK)
		wantErr(t, "Append", d.Append("new"+name, nil), api.OK)
	}
	if want := []string{"a", "b", "c"}; !slices.Equal(got, want) || !slices.Equal(slices.Collect(names), want) {
		t.Errorf("the names are %q, want %q", got, want)
	}
	wantFiles(t, "changed in the midst", d, plain{"newa", "", 0}, plain{"newb", "", 0}, plain{"newc", "", 0})
}

func TestNamesThatAreLeft(t *testing.T) {
	d := laid(t, plain{"a", "1", 0}, plain{"b", "2", 0}, plain{"c", "3", 0})
	names := d.Names()
	for n := range 4 {
		var got []string
		for name := range names {
			if len(got) == n {
				break
			}
			got = append(got, name)
		}
		if want := []string{"a", "b", "c"}[:n]; !slices.Equal(got, want) {
			t.Errorf("left behind %d: %q, want %q", n, got, want)
		}
	}
	for x := range names {
		for y := range names {
			if y > x {
				break
			}
		}
	}
	if got := slices.Collect(names); len(got) != 3 {
		t.Errorf("done again: %q", got)
	}
}

func TestNamesAreNobodyElses(t *testing.T) {
	d := laid(t, plain{"a", "1", 0}, plain{"b", "2", 0})
	got := slices.Collect(d.Names())
	clear(got)
	if again := slices.Collect(d.Names()); !slices.Equal(again, []string{"a", "b"}) {
		t.Errorf("the names are %q", again)
	}
}

// TestSameCallsAnswerTheSame: crashes and clones go through a map, whose order must not be seen.
func TestSameCallsAnswerTheSame(t *testing.T) {
	tell := func() (face, []string) {
		s := source(77)
		d := made(t, 4000)
		for range 600 {
			d.Append(string(s.bytes(2)), s.bytes(s.below(9)))
			if s.below(20) == 0 {
				d.Crash(s.below(5))
				d.Restart()
			}
		}
		d.SetFuse(5, 2)
		return look(t, d), slices.Collect(d.Clone().Names())
	}
	first, names := tell()
	if !slices.IsSorted(names) || len(names) != len(first.files) {
		t.Error("the names of the clone do not rise")
	}
	for range 5 {
		again, other := tell()
		if !again.same(first) || !slices.Equal(other, names) {
			t.Fatal("the same calls answer otherwise")
		}
	}
}

// TestFilesShareNothing: each file has bytes of its own.
func TestFilesShareNothing(t *testing.T) {
	d := made(t, 1000)
	b := []byte("same")
	want := map[string]string{}
	for _, name := range []string{"a", "b", "c"} {
		d.Append(name, b)
		want[name] = "same"
	}
	for i := range 30 {
		name := string("abc"[i%3])
		x := string(rune('A' + i%26))
		d.Append(name, []byte(x))
		want[name] += x
		if i%4 == 0 {
			d.Sync(name)
		}
	}
	got := map[string]string{}
	for name := range d.Names() {
		bytes, _ := d.Read(name)
		got[name] = string(bytes)
	}
	if !maps.Equal(got, want) {
		t.Errorf("the files are %q, want %q", got, want)
	}
}
