package wal_test

import (
	"fmt"
	"slices"
	"strings"
	"testing"

	"orchard/api"
	"orchard/disk"
	"orchard/wal"
	"orchard/wire"
)

const (
	roomy   = 1 << 24
	longest = 1 << 16         // bytes of a record
	highest = 999_999_999_999 // a record's number
)

// source is a sequence that is the same in each run.
type source uint64

func (s *source) next() uint64 {
	*s = *s*6364136223846793005 + 1442695040888963407
	return uint64(*s >> 33)
}

func (s *source) below(n int) int { return int(s.next() % uint64(n)) }

func (s *source) text(n int) string {
	b := make([]byte, n)
	for i := range b {
		b[i] = byte(s.next())
	}
	return string(b)
}

func wantErr(t *testing.T, what string, got, want api.Errno) {
	t.Helper()
	if got != want {
		t.Errorf("%s: error %d, want %d", what, got, want)
	}
}

func made(t *testing.T, room int) *disk.Disk {
	t.Helper()
	d, err := disk.New(room)
	if d == nil || err != api.OK {
		t.Fatalf("New of %d: %v, error %d", room, d, err)
	}
	return d
}

// opened is the log "log" of a disk.
func opened(t *testing.T, d *disk.Disk) *wal.Log {
	t.Helper()
	l, err := wal.Open(d, "log")
	if l == nil || err != api.OK {
		t.Fatalf("Open: %v, error %d", l, err)
	}
	return l
}

// wantNoLog: Open answers an error, and no log beside it.
func wantNoLog(t *testing.T, what string, d *disk.Disk, name string, want api.Errno) {
	t.Helper()
	l, err := wal.Open(d, name)
	wantErr(t, what, err, want)
	if l != nil {
		t.Errorf("%s: beside the error %d there is a log", what, err)
	}
}

// list are records as they are handed in.
func list(records ...string) [][]byte {
	var l [][]byte
	for _, r := range records {
		l = append(l, []byte(r))
	}
	return l
}

func wantAppend(t *testing.T, what string, l *wal.Log, records ...string) {
	t.Helper()
	wantErr(t, "Append of "+what, l.Append(list(records...)...), api.OK)
}

// framed are the frames of records, one behind the other.
func framed(records ...string) string {
	all := ""
	for _, r := range records {
		f, _ := wire.Frame([]byte(r))
		all += string(f)
	}
	return all
}

// filling is a record that, alone in a segment, makes it so many bytes long (from 70 on).
func filling(bytes int, with string) string { return strings.Repeat(with, bytes-6) }

// seg is the name of a segment of the log "log".
func seg(first int64) string { return fmt.Sprintf("log.%012d", first) }

func short(s string) string {
	if len(s) <= 24 {
		return fmt.Sprintf("%q", s)
	}
	return fmt.Sprintf("%q..(%d)", s[:16], len(s))
}

// plain is a file as it is seen from outside.
type plain struct {
	name   string
	all    string
	synced int
}

func (f plain) String() string {
	return fmt.Sprintf("%s: %s, synced %d", f.name, short(f.all), f.synced)
}

// safe is a file all of which is synced.
func safe(name, all string) plain { return plain{name, all, len(all)} }

func lay(t *testing.T, d *disk.Disk, files ...plain) {
	t.Helper()
	for _, f := range files {
		wantErr(t, "Append of what is synced", d.Append(f.name, []byte(f.all[:f.synced])), api.OK)
		wantErr(t, "Sync", d.Sync(f.name), api.OK)
		wantErr(t, "Append of the tail", d.Append(f.name, []byte(f.all[f.synced:])), api.OK)
	}
}

func laid(t *testing.T, files ...plain) *disk.Disk {
	t.Helper()
	d := made(t, roomy)
	lay(t, d, files...)
	return d
}

// face is a disk as it is seen from outside.
type face struct {
	files []plain
	down  bool
	fuse  int // at which change it crashes, 0: at none of the next ones
}

func (x face) same(y face) bool {
	return slices.Equal(x.files, y.files) && x.down == y.down && x.fuse == y.fuse
}

const furthestFuse = 40

// look sees a disk by a clone of it, so that one that is down is seen too, and a fuse is told by burning it.
func look(t *testing.T, d *disk.Disk) face {
	t.Helper()
	x := face{down: d.Down()}
	c := d.Clone()
	if c.Down() {
		wantErr(t, "Restart", c.Restart(), api.OK)
	}
	for name := range c.Names() {
		b, err := c.Read(name)
		wantErr(t, "Read", err, api.OK)
		_, synced, err := c.Size(name)
		wantErr(t, "Size", err, api.OK)
		x.files = append(x.files, plain{name, string(b), synced})
	}
	x.fuse = fuseOf(t, c)
	return x
}

func fuseOf(t *testing.T, c *disk.Disk) int {
	t.Helper()
	at := "probe"
	for name := range c.Names() {
		at = name
		break
	}
	for k := range furthestFuse {
		err := c.Append(at, nil)
		if err == api.ErrDown {
			return k + 1
		}
		wantErr(t, "Append of nothing", err, api.OK)
	}
	return 0
}

func wantFace(t *testing.T, what string, d *disk.Disk, want face) {
	t.Helper()
	if got := look(t, d); !got.same(want) {
		t.Errorf("%s: the disk is %v, want %v", what, got, want)
	}
}

func wantFiles(t *testing.T, what string, d *disk.Disk, want ...plain) {
	t.Helper()
	if got := look(t, d).files; !slices.Equal(got, want) {
		t.Errorf("%s: the files are %v, want %v", what, got, want)
	}
}

// wantChanges: a call changes the disk so many times.
func wantChanges(t *testing.T, what string, d *disk.Disk, want int, call func()) {
	t.Helper()
	wantErr(t, "SetFuse", d.SetFuse(furthestFuse, 0), api.OK)
	call()
	if got := furthestFuse - fuseOf(t, d.Clone()); got != want {
		t.Errorf("%s: the disk was changed %d times, want %d", what, got, want)
	}
	wantErr(t, "SetFuse", d.SetFuse(0, 0), api.OK)
}

// told is a log as it is seen from outside.
type told struct {
	first, next, synced int64
	segments            int
	records             []string
}

func (x told) same(y told) bool {
	return x.first == y.first && x.next == y.next && x.synced == y.synced && x.segments == y.segments && slices.Equal(x.records, y.records)
}

func (x told) String() string {
	var records []string
	for _, r := range x.records {
		records = append(records, short(r))
	}
	return fmt.Sprintf("first %d, next %d, synced %d, segments %d, records %v", x.first, x.next, x.synced, x.segments, records)
}

// tell sees a log; the records' numbers must go from its first one up to its next one.
func tell(t *testing.T, l *wal.Log) told {
	t.Helper()
	x := told{first: l.First(), next: l.Next(), synced: l.Synced(), segments: l.Segments()}
	for n, b := range l.Records() {
		if n != x.first+int64(len(x.records)) {
			t.Fatalf("behind %d records from %d on comes the number %d", len(x.records), x.first, n)
		}
		x.records = append(x.records, string(b))
	}
	if x.first+int64(len(x.records)) != x.next {
		t.Fatalf("there are %d records from %d on, and the next one is %d", len(x.records), x.first, x.next)
	}
	return x
}

func wantTold(t *testing.T, what string, l *wal.Log, want told) {
	t.Helper()
	if got := tell(t, l); !got.same(want) {
		t.Errorf("%s: the log is %v, want %v", what, got, want)
	}
}

// wantReopened: opened again, the log is the same, and all of it counts as synced.
func wantReopened(t *testing.T, what string, d *disk.Disk, l *wal.Log) {
	t.Helper()
	want := tell(t, l)
	want.synced = want.next
	wantTold(t, what+", opened again", opened(t, d.Clone()), want)
}

// crashed is a disk like d behind a crash and a restart.
func crashed(t *testing.T, d *disk.Disk, keep int) *disk.Disk {
	t.Helper()
	c := d.Clone()
	wantErr(t, "Crash", c.Crash(keep), api.OK)
	wantErr(t, "Restart", c.Restart(), api.OK)
	return c
}
