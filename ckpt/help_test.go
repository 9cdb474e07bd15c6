package ckpt_test

import (
	"encoding/binary"
	"fmt"
	"hash/crc32"
	"slices"
	"testing"

	"orchard/api"
	"orchard/ckpt"
	"orchard/disk"
)

const (
	roomy   = 1 << 22
	old     = "ckpt"
	spare   = "ckpt.new"
	longest = 1 << 19 // bytes of data
	latest  = 1 << 40 // a slot
)

// source is a sequence that is the same in each run.
type source uint64

func (s *source) next() uint64 {
	*s = *s*6364136223846793005 + 1442695040888963407
	return uint64(*s >> 33)
}

func (s *source) below(n int) int { return int(s.next() % uint64(n)) }

func (s *source) text(n int) string {
	b := make([]byte, n)
	for i := range b {
		b[i] = byte(s.next())
	}
	return string(b)
}

// The form of a checkpoint, told anew: nothing of package wire is in it.

func number(n int64) string { return string(binary.AppendVarint(nil, n)) }

func framed(body string) string {
	sum := crc32.ChecksumIEEE([]byte(body))
	return number(int64(len(body))) + body + string(binary.LittleEndian.AppendUint32(nil, sum))
}

func encoded(slot int64, data string) string {
	return framed(number(slot) + number(int64(len(data))) + data)
}

func short(s string) string {
	if len(s) <= 40 {
		return fmt.Sprintf("%q", s)
	}
	return fmt.Sprintf("%q..(%d)", s[:24], len(s))
}

// point is a checkpoint as it is answered, or an error.
type point struct {
	slot int64
	data string
	err  api.Errno
}

func (p point) String() string {
	return fmt.Sprintf("slot %d, data %s, error %d", p.slot, short(p.data), p.err)
}

func wrong(err api.Errno) point { return point{err: err} }

func decode(b string) point {
	slot, data, err := ckpt.Decode([]byte(b))
	return point{slot, string(data), err}
}

func load(d *disk.Disk) point {
	slot, data, err := ckpt.Load(d)
	return point{slot, string(data), err}
}

func wantPoint(t *testing.T, what string, got, want point) {
	t.Helper()
	if got != want {
		t.Errorf("%s: %v, want %v", what, got, want)
	}
}

func wantErr(t *testing.T, what string, got, want api.Errno) {
	t.Helper()
	if got != want {
		t.Errorf("%s: error %d, want %d", what, got, want)
	}
}

func save(d *disk.Disk, p point) api.Errno { return ckpt.Save(d, p.slot, []byte(p.data)) }

func wantSaved(t *testing.T, what string, d *disk.Disk, p point) {
	t.Helper()
	wantErr(t, what+": Save", save(d, p), api.OK)
	wantPoint(t, what+": Load", load(d), p)
}

func made(t *testing.T, room int) *disk.Disk {
	t.Helper()
	d, err := disk.New(room)
	if d == nil || err != api.OK {
		t.Fatalf("New of %d: %v, error %d", room, d, err)
	}
	return d
}

// plain is a file as it is seen from outside.
type plain struct {
	name   string
	all    string
	synced int
}

func (f plain) String() string {
	return fmt.Sprintf("%q: %s, synced %d", f.name, short(f.all), f.synced)
}

// safe is a file all of which is synced.
func safe(name, all string) plain { return plain{name, all, len(all)} }

func lay(t *testing.T, d *disk.Disk, files ...plain) {
	t.Helper()
	for _, f := range files {
		wantErr(t, "Append of what is synced", d.Append(f.name, []byte(f.all[:f.synced])), api.OK)
		wantErr(t, "Sync", d.Sync(f.name), api.OK)
		wantErr(t, "Append of the tail", d.Append(f.name, []byte(f.all[f.synced:])), api.OK)
	}
}

func laid(t *testing.T, files ...plain) *disk.Disk {
	t.Helper()
	d := made(t, roomy)
	lay(t, d, files...)
	return d
}

// face is a disk as it is seen from outside.
type face struct {
	files []plain
	used  int
	down  bool
	fuse  int // at which change it crashes, 0: at none of the next ones
}

func (x face) same(y face) bool {
	return slices.Equal(x.files, y.files) && x.used == y.used && x.down == y.down && x.fuse == y.fuse
}

const furthestFuse = 20

// look sees a disk by a clone of it, so that one that is down is seen too, and a fuse is told by burning it.
func look(t *testing.T, d *disk.Disk) face {
	t.Helper()
	x := face{used: d.Used(), down: d.Down()}
	c := d.Clone()
	if c.Down() {
		wantErr(t, "Restart", c.Restart(), api.OK)
	}
	for name := range c.Names() {
		b, err := c.Read(name)
		wantErr(t, "Read", err, api.OK)
		_, synced, err := c.Size(name)
		wantErr(t, "Size", err, api.OK)
		x.files = append(x.files, plain{name, string(b), synced})
	}
	x.fuse = fuseOf(t, c)
	return x
}

func fuseOf(t *testing.T, c *disk.Disk) int {
	t.Helper()
	at := "probe"
	for name := range c.Names() {
		at = name
		break
	}
	for k := range furthestFuse {
		err := c.Append(at, nil)
		if err == api.ErrDown {
			return k + 1
		}
		wantErr(t, "Append of nothing", err, api.OK)
	}
	return 0
}

func wantFace(t *testing.T, what string, d *disk.Disk, want face) {
	t.Helper()
	if got := look(t, d); !got.same(want) {
		t.Errorf("%s: the disk is %v, want %v", what, got, want)
	}
}

func wantFiles(t *testing.T, what string, d *disk.Disk, want ...plain) {
	t.Helper()
	if got := look(t, d).files; !slices.Equal(got, want) {
		t.Errorf("%s: the files are %v, want %v", what, got, want)
	}
}

// wantChanges: a call changes the disk so many times.
func wantChanges(t *testing.T, what string, d *disk.Disk, want int, call func()) {
	t.Helper()
	wantErr(t, "SetFuse", d.SetFuse(furthestFuse, 0), api.OK)
	call()
	if got := furthestFuse - fuseOf(t, d.Clone()); got != want {
		t.Errorf("%s: the disk was changed %d times, want %d", what, got, want)
	}
	wantErr(t, "SetFuse", d.SetFuse(0, 0), api.OK)
}

// crashed is a disk like d behind a crash and a restart.
func crashed(t *testing.T, d *disk.Disk, keep int) *disk.Disk {
	t.Helper()
	c := d.Clone()
	wantErr(t, "Crash", c.Crash(keep), api.OK)
	wantErr(t, "Restart", c.Restart(), api.OK)
	return c
}
