package disk_test

import (
	"slices"
	"strings"
	"testing"

	"orchard/api"
	"orchard/disk"
)

func made(t *testing.T, room int) *disk.Disk {
	t.Helper()
	d, err := disk.New(room)
	if d == nil || err != api.OK {
		t.Fatalf("New of %d: %v, error %d", room, d, err)
	}
	return d
}

// laid is a disk with room for 100 bytes more than its files have, each with a synced part and a tail.
func laid(t *testing.T, files ...plain) *disk.Disk {
	t.Helper()
	room := 100
	for _, f := range files {
		room += len(f.all)
	}
	d := made(t, room)
	for _, f := range files {
		wantErr(t, "Append of what is synced", d.Append(f.name, []byte(f.all[:f.synced])), api.OK)
		wantErr(t, "Sync", d.Sync(f.name), api.OK)
		wantErr(t, "Append of the tail", d.Append(f.name, []byte(f.all[f.synced:])), api.OK)
	}
	return d
}

func fallen(t *testing.T, keep int, files ...plain) *disk.Disk {
	t.Helper()
	d := laid(t, files...)
	wantErr(t, "Crash", d.Crash(keep), api.OK)
	return d
}

func wantErr(t *testing.T, what string, got, want api.Errno) {
	t.Helper()
	if got != want {
		t.Errorf("%s: error %d, want %d", what, got, want)
	}
}

// plain is a file as it is seen from outside.
type plain struct {
	name   string
	all    string
	synced int
}

// face is a disk as it is seen from outside.
type face struct {
	room, used int
	down       bool
	files      []plain
	fuse       int // at which change it crashes, 0: at none of the next ones
}

func (x face) same(y face) bool {
	return x.room == y.room && x.used == y.used && x.down == y.down && slices.Equal(x.files, y.files) && x.fuse == y.fuse
}

const furthestFuse = 12

// look sees a disk by clones of it, so that one that is down is seen too, and a fuse is told by burning it.
func look(t *testing.T, d *disk.Disk) face {
	t.Helper()
	x := face{room: d.Room(), used: d.Used(), down: d.Down()}
	c := d.Clone()
	if c.Down() {
		wantErr(t, "Restart", c.Restart(), api.OK)
	}
	for name := range c.Names() {
		b, err := c.Read(name)
		wantErr(t, "Read", err, api.OK)
		n, synced, err := c.Size(name)
		wantErr(t, "Size", err, api.OK)
		if n != len(b) {
			t.Errorf("Size of %q: %d, Read has %d", name, n, len(b))
		}
		x.files = append(x.files, plain{name, string(b), synced})
	}
	x.fuse = fuseOf(t, c, x.files)
	return x
}

func fuseOf(t *testing.T, c *disk.Disk, files []plain) int {
	t.Helper()
	name := "probe"
	if len(files) > 0 {
		name = files[0].name
	}
	for k := range furthestFuse {
		err := c.Append(name, nil)
		if err == api.ErrDown {
			return k + 1
		}
		wantErr(t, "Append of nothing", err, api.OK)
	}
	return 0
}

func wantFace(t *testing.T, what string, d *disk.Disk, want face) {
	t.Helper()
	if got := look(t, d); !got.same(want) {
		t.Errorf("%s: the disk is %v, want %v", what, got, want)
	}
}

func wantFiles(t *testing.T, what string, d *disk.Disk, want ...plain) {
	t.Helper()
	if got := look(t, d).files; !slices.Equal(got, want) {
		t.Errorf("%s: the files are %v, want %v", what, got, want)
	}
}

// source is a sequence that is the same in each run.
type source uint64

func (s *source) next() uint64 {
	*s = *s*6364136223846793005 + 1442695040888963407
	return uint64(*s >> 33)
}

func (s *source) below(n int) int { return int(s.next() % uint64(n)) }

func (s *source) bytes(n int) []byte {
	b := make([]byte, n)
	for i := range b {
		b[i] = byte(s.next())
	}
	return b
}

func longName(n int) string { return strings.Repeat("n", n) }

// call is a call of a disk that may answer an error.
type call struct {
	what string
	do   func(d *disk.Disk) api.Errno
}

// asks are the calls about a file, with the name in each place that takes one.
func asks(name string) []call {
	return []call{
		{"Append", func(d *disk.Disk) api.Errno { return d.Append(name, []byte("x")) }},
		{"Sync", func(d *disk.Disk) api.Errno { return d.Sync(name) }},
		{"Read", func(d *disk.Disk) api.Errno { _, err := d.Read(name); return err }},
		{"Remove", func(d *disk.Disk) api.Errno { return d.Remove(name) }},
		{"Rename from it", func(d *disk.Disk) api.Errno { return d.Rename(name, "z") }},
		{"Rename to it", func(d *disk.Disk) api.Errno { return d.Rename("a", name) }},
		{"Size", func(d *disk.Disk) api.Errno { _, _, err := d.Size(name); return err }},
	}
}
