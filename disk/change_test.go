package disk_test

import (
	"math"
	"strconv"
	"strings"
	"testing"

	"orchard/api"
	"orchard/disk"
)

// P2.2: files are appended to, synced, read, removed, renamed, measured.

func TestDownDiskTakesNoCall(t *testing.T) {
	// Names that may not be, and files that are not there: ErrDown comes ahead of both.
	for _, name := range []string{"a", "none", "", longName(api.MaxFile + 1)} {
		for _, c := range asks(name) {
			d := fallen(t, 2, plain{"a", "hello", 1})
			before := look(t, d)
			wantErr(t, c.what+" of a disk that is down", c.do(d), api.ErrDown)
			wantFace(t, c.what+" of a disk that is down", d, before)
		}
	}
}

func TestNamesThatMayNotBe(t *testing.T) {
	for _, name := range []string{"", longName(api.MaxFile + 1), strings.Repeat("\x00", api.MaxFile+1), longName(1 << 16)} {
		for _, c := range asks(name) {
			d := laid(t, plain{"a", "hello", 3})
			d.SetFuse(2, 0)
			before := look(t, d)
			wantErr(t, c.what+" of a name of "+strconv.Itoa(len(name)), c.do(d), api.ErrDiskName)
			wantFace(t, c.what, d, before)
		}
		d := made(t, 10)
		wantErr(t, "Rename of no file to it", d.Rename("none", name), api.ErrDiskName)
		wantErr(t, "Rename of it to it", d.Rename(name, name), api.ErrDiskName)
	}
}

func TestNamesOfAnyBytes(t *testing.T) {
	names := []string{"n", "\x00", "\n", " ", "/", "\xff", "\xc3\x28", "é", longName(api.MaxFile), strings.Repeat("\xff", api.MaxFile), strings.Repeat("é", api.MaxFile/2)}
	for _, name := range names {
		d := made(t, 10)
		wantErr(t, "Append", d.Append(name, []byte("ab")), api.OK)
		wantErr(t, "Sync", d.Sync(name), api.OK)
		wantFiles(t, "a name of any bytes", d, plain{name, "ab", 2})
		wantErr(t, "Rename from", d.Rename(name, "other"), api.OK)
		wantFiles(t, "renamed", d, plain{"other", "ab", 2})
		wantErr(t, "Rename to", d.Rename("other", name), api.OK)
		wantFiles(t, "renamed again", d, plain{name, "ab", 2})
		wantErr(t, "Remove", d.Remove(name), api.OK)
		wantFiles(t, "removed", d)
	}
}

func TestNamesOfEachByte(t *testing.T) {
	d := made(t, 256)
	for i := range 256 {
		wantErr(t, "Append", d.Append(string([]byte{byte(i)}), []byte{byte(i)}), api.OK)
	}
	i := 0
	for name := range d.Names() {
		b, err := d.Read(name)
		if err != api.OK || len(name) != 1 || int(name[0]) != i || string(b) != name {
			t.Errorf("the file %d has the name %q, the bytes %q, error %d", i, name, b, err)
		}
		i++
	}
	if i != 256 {
		t.Error("there are", i, "files")
	}
}

func TestAppend(t *testing.T) {
	d := made(t, 100)
	wantErr(t, "Append", d.Append("a", []byte("hello")), api.OK)
	wantFiles(t, "a new file", d, plain{"a", "hello", 0})
	wantErr(t, "Append", d.Append("a", []byte("!")), api.OK)
	wantFiles(t, "to a tail", d, plain{"a", "hello!", 0})
	d.Sync("a")
	wantErr(t, "Append", d.Append("a", []byte("\x00\xff")), api.OK)
	wantFiles(t, "to a synced file", d, plain{"a", "hello!\x00\xff", 6})
	wantErr(t, "Append", d.Append("b", []byte("1")), api.OK)
	wantFiles(t, "to another file", d, plain{"a", "hello!\x00\xff", 6}, plain{"b", "1", 0})
}

func TestAppendOfNoBytes(t *testing.T) {
	for _, room := range []int{0, 10} {
		d := made(t, room)
		wantErr(t, "Append of nil", d.Append("a", nil), api.OK)
		wantErr(t, "Append of an empty list", d.Append("b", []byte{}), api.OK)
		wantFiles(t, "files without bytes", d, plain{"a", "", 0}, plain{"b", "", 0})
		wantErr(t, "Append of nil again", d.Append("a", nil), api.OK)
		wantErr(t, "Sync", d.Sync("a"), api.OK)
		wantFiles(t, "files without bytes", d, plain{"a", "", 0}, plain{"b", "", 0})
		wantErr(t, "Crash", d.Crash(0), api.OK)
		wantFiles(t, "behind a crash", d, plain{"a", "", 0}, plain{"b", "", 0})
	}
	d := laid(t, plain{"a", "hello", 3})
	wantErr(t, "Append of nil", d.Append("a", nil), api.OK)
	wantFiles(t, "a file with bytes", d, plain{"a", "hello", 3})
}

func TestAppendMaxFiles(t *testing.T) {
	d := made(t, 10)
	for i := range api.MaxFiles {
		wantErr(t, "Append", d.Append(strconv.Itoa(i), nil), api.OK)
	}
	before := look(t, d)
	wantErr(t, "one file more", d.Append("more", nil), api.ErrLong)
	wantErr(t, "one file more, without room", d.Append("more", make([]byte, 11)), api.ErrLong)
	wantErr(t, "no name", d.Append("", make([]byte, 11)), api.ErrDiskName)
	wantFace(t, "MaxFiles files", d, before)
	wantErr(t, "a byte to the first one", d.Append("0", []byte("x")), api.OK)
	wantErr(t, "a byte to the last one", d.Append(strconv.Itoa(api.MaxFiles-1), []byte("x")), api.OK)
	wantErr(t, "too many bytes to one", d.Append("5", make([]byte, 9)), api.ErrFull)
	wantErr(t, "Rename to a new name", d.Rename("0", "new"), api.OK)
	wantErr(t, "one file more", d.Append("0", nil), api.ErrLong)
	wantErr(t, "Remove", d.Remove("7"), api.OK)
	wantErr(t, "one file for another", d.Append("more", nil), api.OK)
	wantErr(t, "one file more", d.Append("7", nil), api.ErrLong)
	wantErr(t, "Rename over another", d.Rename("1", "2"), api.OK)
	wantErr(t, "one file for another", d.Append("7", nil), api.OK)
	wantErr(t, "one file more", d.Append("1", nil), api.ErrLong)
}

func TestAppendFull(t *testing.T) {
	d := made(t, 10)
	wantErr(t, "Append of 11", d.Append("a", make([]byte, 11)), api.ErrFull)
	wantFace(t, "behind ErrFull", d, face{room: 10})
	wantErr(t, "Append of 10", d.Append("a", []byte("0123456789")), api.OK)
	wantErr(t, "one byte more", d.Append("a", []byte("x")), api.ErrFull)
	wantErr(t, "one byte more to another", d.Append("b", []byte("x")), api.ErrFull)
	wantErr(t, "no byte more", d.Append("a", nil), api.OK)
	wantFace(t, "a full disk", d, face{room: 10, used: 10, files: []plain{{"a", "0123456789", 0}}})
	d.Crash(4)
	d.Restart()
	wantErr(t, "more than what was lost", d.Append("b", make([]byte, 7)), api.ErrFull)
	wantErr(t, "as much as what was lost", d.Append("b", []byte("123456")), api.OK)
	d.Remove("a")
	wantErr(t, "more than what was removed", d.Append("c", make([]byte, 5)), api.ErrFull)
	wantErr(t, "as much as what was removed", d.Append("c", []byte("1234")), api.OK)
	d.Rename("b", "c")
	wantErr(t, "more than what was renamed over", d.Append("d", make([]byte, 5)), api.ErrFull)
	wantErr(t, "as much as what was renamed over", d.Append("d", []byte("abcd")), api.OK)
	wantFace(t, "a full disk", d, face{room: 10, used: 10, files: []plain{{"c", "123456", 0}, {"d", "abcd", 0}}})
}

func TestAppendWithoutRoom(t *testing.T) {
	d := made(t, 0)
	wantErr(t, "a byte to a new file", d.Append("a", []byte("x")), api.ErrFull)
	wantFace(t, "behind ErrFull", d, face{})
	wantErr(t, "no byte", d.Append("a", nil), api.OK)
	wantErr(t, "a byte to a file", d.Append("a", []byte("x")), api.ErrFull)
	wantFace(t, "without room", d, face{files: []plain{{"a", "", 0}}})
	d = made(t, math.MaxInt)
	wantErr(t, "with all room", d.Append("a", []byte("x")), api.OK)
	wantErr(t, "with all room", d.Append("a", []byte("x")), api.OK)
}

func TestFilesThatAreNotThere(t *testing.T) {
	for _, c := range asks("none")[1:] {
		if c.what == "Rename to it" {
			continue
		}
		d := laid(t, plain{"a", "hello", 3})
		d.SetFuse(2, 0)
		before := look(t, d)
		wantErr(t, c.what, c.do(d), api.ErrNone)
		wantFace(t, c.what, d, before)
	}
	d := laid(t, plain{"a", "hello", 3})
	d.SetFuse(2, 0)
	before := look(t, d)
	wantErr(t, "Rename of none to itself", d.Rename("none", "none"), api.ErrNone)
	wantErr(t, "Rename of none over a file", d.Rename("none", "a"), api.ErrNone)
	wantFace(t, "Rename of none", d, before)
}

func TestSync(t *testing.T) {
	d := laid(t, plain{"a", "hello", 2}, plain{"b", "world", 1})
	wantErr(t, "Sync", d.Sync("a"), api.OK)
	wantFiles(t, "Sync of one", d, plain{"a", "hello", 5}, plain{"b", "world", 1})
	wantErr(t, "Sync", d.Sync("a"), api.OK)
	wantFiles(t, "Sync of one again", d, plain{"a", "hello", 5}, plain{"b", "world", 1})
	d.Append("a", []byte("xyz"))
	wantErr(t, "Sync", d.Sync("a"), api.OK)
	wantFiles(t, "Sync of more", d, plain{"a", "helloxyz", 8}, plain{"b", "world", 1})
}

func TestReadAndSize(t *testing.T) {
	d := laid(t, plain{"a", "hello", 3}, plain{"b", "", 0})
	b, err := d.Read("a")
	if string(b) != "hello" || err != api.OK {
		t.Errorf("Read: %q, error %d", b, err)
	}
	b, err = d.Read("b")
	if len(b) != 0 || err != api.OK {
		t.Errorf("Read of an empty file: %q, error %d", b, err)
	}
	n, synced, err := d.Size("a")
	if n != 5 || synced != 3 || err != api.OK {
		t.Error("Size:", n, synced, err)
	}
	n, synced, err = d.Size("b")
	if n != 0 || synced != 0 || err != api.OK {
		t.Error("Size of an empty file:", n, synced, err)
	}
}

func TestRemove(t *testing.T) {
	d := laid(t, plain{"a", "hello", 3}, plain{"b", "world", 5}, plain{"c", "xyz", 0})
	wantErr(t, "Remove", d.Remove("b"), api.OK)
	wantFiles(t, "one removed", d, plain{"a", "hello", 3}, plain{"c", "xyz", 0})
	wantErr(t, "Remove again", d.Remove("b"), api.ErrNone)
	wantErr(t, "Append", d.Append("b", []byte("new")), api.OK)
	wantFiles(t, "one of that name again", d, plain{"a", "hello", 3}, plain{"b", "new", 0}, plain{"c", "xyz", 0})
	wantErr(t, "Remove", d.Remove("a"), api.OK)
	wantErr(t, "Remove", d.Remove("c"), api.OK)
	d.Crash(9)
	wantFiles(t, "what was removed is gone behind a crash", d, plain{"b", "new", 3})
}

func TestRename(t *testing.T) {
	three := []plain{{"a", "hello", 3}, {"b", "world", 5}, {"c", "xyz", 0}}
	cases := []struct {
		from, to string
		want     []plain
	}{
		{"a", "d", []plain{{"b", "world", 5}, {"c", "xyz", 0}, {"d", "hello", 3}}},
		{"a", "b", []plain{{"b", "hello", 3}, {"c", "xyz", 0}}},
		{"c", "b", []plain{{"a", "hello", 3}, {"b", "xyz", 0}}},
		{"b", "c", []plain{{"a", "hello", 3}, {"c", "world", 5}}},
		{"a", "a", three},
		{"c", "c", three},
	}
	for _, c := range cases {
		d := laid(t, three...)
		wantErr(t, "Rename", d.Rename(c.from, c.to), api.OK)
		wantFiles(t, "Rename of "+c.from+" to "+c.to, d, c.want...)
		d.Crash(9)
		for i := range c.want {
			c.want[i].synced = len(c.want[i].all)
		}
		wantFiles(t, "behind a crash", d, c.want...)
	}
}

// TestRenamedFilesAreApart: what comes to a name later is not the file that had it.
func TestRenamedFilesAreApart(t *testing.T) {
	d := laid(t, plain{"a", "hello", 3})
	d.Rename("a", "b")
	d.Append("a", []byte("new"))
	d.Append("b", []byte("!"))
	wantFiles(t, "both", d, plain{"a", "new", 0}, plain{"b", "hello!", 3})
	d.Sync("a")
	wantFiles(t, "one synced", d, plain{"a", "new", 3}, plain{"b", "hello!", 3})
}

// TestWhatIsRenamedKeepsItsTail: the name outlives the crash, the tail does not.
func TestWhatIsRenamedKeepsItsTail(t *testing.T) {
	d := laid(t, plain{"a", "hello", 3}, plain{"b", "world", 5})
	d.Rename("a", "b")
	d.Crash(1)
	wantFiles(t, "behind a crash", d, plain{"b", "hell", 4})
}

func TestReadsAreNoChanges(t *testing.T) {
	d := laid(t, plain{"a", "hello", 3})
	d.SetFuse(1, 0)
	before := look(t, d)
	for range 5 {
		d.Read("a")
		d.Size("a")
		d.Used()
		d.Room()
		d.Down()
		d.Names()
		d.Clone()
	}
	wantFace(t, "behind reads", d, before)
}

func TestBigFile(t *testing.T) {
	d, _ := disk.New(api.MaxBytes)
	s := source(9)
	b := s.bytes(api.MaxBytes)
	for i := 0; i < len(b); i += 1 << 10 {
		wantErr(t, "Append", d.Append("a", b[i:i+1<<10]), api.OK)
		if i%(1<<12) == 0 {
			wantErr(t, "Sync", d.Sync("a"), api.OK)
		}
	}
	got, err := d.Read("a")
	if string(got) != string(b) || err != api.OK || d.Used() != api.MaxBytes {
		t.Error("Read of a big file:", len(got), err, d.Used())
	}
	wantErr(t, "one byte more", d.Append("a", []byte("x")), api.ErrFull)
}
