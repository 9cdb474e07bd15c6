package disk_test

import (
	"cmp"
	"slices"
	"strings"
	"testing"

	"orchard/api"
	"orchard/disk"
)

// P2.5, P2.6, P2.7: what follows, held against disks that are driven at random, and against a plain telling of the chapter.

// model is the chapter's words, one by one, over a list of files.
type model struct {
	room, fuse, keep int
	down             bool
	files            []plain
}

func (m *model) at(name string) int {
	return slices.IndexFunc(m.files, func(f plain) bool { return f.name == name })
}

func (m *model) used() int {
	n := 0
	for _, f := range m.files {
		n += len(f.all)
	}
	return n
}

func (m *model) crash(keep int) {
	for i, f := range m.files {
		if len(f.all)-f.synced > keep {
			f.all = f.all[:f.synced+keep]
		}
		m.files[i] = plain{f.name, f.all, len(f.all)}
	}
	m.fuse, m.down = 0, true
}

// last takes one from the fuse, and tells whether that was the last one.
func (m *model) last() bool {
	if m.fuse == 0 {
		return false
	}
	m.fuse--
	return m.fuse == 0
}

func (m *model) face() face {
	files := slices.Clone(m.files)
	slices.SortFunc(files, func(x, y plain) int { return cmp.Compare(x.name, y.name) })
	return face{m.room, m.used(), m.down, files, m.fuse}
}

// step is a call with all that it may be given.
type step struct {
	kind    int
	name    string
	to      string
	b       []byte
	k, keep int
}

func (x step) run(d *disk.Disk) api.Errno {
	switch x.kind {
	case 0:
		return d.Append(x.name, x.b)
	case 1:
		return d.Sync(x.name)
	case 2:
		return d.Remove(x.name)
	case 3:
		return d.Rename(x.name, x.to)
	case 4:
		return d.SetFuse(x.k, x.keep)
	case 5:
		return d.Crash(x.keep)
	}
	return d.Restart()
}

func (m *model) run(x step) api.Errno {
	switch x.kind {
	case 4:
		if x.k < 0 || x.keep < 0 {
			return api.ErrArg
		}
		if m.down {
			return api.ErrDown
		}
		m.fuse, m.keep = x.k, x.keep
		return api.OK
	case 5:
		if x.keep < 0 {
			return api.ErrArg
		}
		if m.down {
			return api.ErrDown
		}
		m.crash(x.keep)
		return api.OK
	case 6:
		if !m.down {
			return api.ErrArg
		}
		m.down = false
		return api.OK
	}
	return m.change(x)
}

func (m *model) change(x step) api.Errno {
	if m.down {
		return api.ErrDown
	}
	for _, s := range []string{x.name, x.to} {
		if (s == "" || len(s) > 64) && (x.kind == 3 || s == x.name) {
			return api.ErrDiskName
		}
	}
	i := m.at(x.name)
	if x.kind == 0 {
		return m.append(i, x)
	}
	if i < 0 {
		return api.ErrNone
	}
	if m.last() {
		m.crash(m.keep)
		return api.ErrDown
	}
	switch x.kind {
	case 1:
		m.files[i].synced = len(m.files[i].all)
	case 2:
		m.files = slices.Delete(m.files, i, i+1)
	case 3:
		m.rename(i, x.to)
	}
	return api.OK
}

func (m *model) append(i int, x step) api.Errno {
	if i < 0 && len(m.files) == 1024 {
		return api.ErrLong
	}
	if m.used()+len(x.b) > m.room {
		return api.ErrFull
	}
	if i < 0 {
		i = len(m.files)
		m.files = append(m.files, plain{name: x.name})
	}
	m.files[i].all += string(x.b)
	if m.last() {
		m.crash(m.keep)
		return api.ErrDown
	}
	return api.OK
}

func (m *model) rename(i int, to string) {
	f := m.files[i]
	f.name = to
	m.files = slices.Delete(m.files, i, i+1)
	m.files = slices.DeleteFunc(m.files, func(g plain) bool { return g.name == to })
	m.files = append(m.files, f)
}

func someStep(s *source) step {
	names := []string{"a", "b", "c", "\xff", longName(64), "a", "b", longName(65), ""}
	kinds := []int{0, 0, 0, 0, 1, 1, 2, 3, 3, 4, 5, 6, 6}
	return step{
		kind: kinds[s.below(len(kinds))],
		name: names[s.below(len(names))],
		to:   names[s.below(len(names))],
		b:    s.bytes(s.below(8)),
		k:    s.below(7) - 1,
		keep: s.below(8) - 1,
	}
}

// wantSyncedStays is P2.5: behind a step, each file that the step neither removed nor renamed over still begins with what was synced.
func wantSyncedStays(t *testing.T, x step, err api.Errno, before, after face) {
	t.Helper()
	for _, f := range before.files {
		name := f.name
		if err == api.OK && x.kind == 2 && x.name == name {
			continue
		}
		if err == api.OK && x.kind == 3 && x.name == name {
			name = x.to
		} else if err == api.OK && x.kind == 3 && x.to == name {
			continue
		}
		i := slices.IndexFunc(after.files, func(g plain) bool { return g.name == name })
		if i < 0 || !strings.HasPrefix(after.files[i].all, f.all[:f.synced]) {
			t.Fatalf("behind %v: %q had %d synced bytes of %q; now the files are %v", x, f.name, f.synced, f.all, after.files)
		}
	}
}

// wantTornTails is P2.6 of a step that took the disk down.
func wantTornTails(t *testing.T, x step, keep int, before, after face) {
	t.Helper()
	for _, g := range after.files {
		var f plain
		i := slices.IndexFunc(before.files, func(f plain) bool { return f.name == g.name })
		if i >= 0 {
			f = before.files[i]
		}
		was := f.all
		if x.kind == 0 && x.name == g.name {
			was += string(x.b)
		}
		if !strings.HasPrefix(was, g.all) || len(g.all) < f.synced || len(g.all) > f.synced+keep || g.synced != len(g.all) {
			t.Fatalf("behind %v, which kept %d: %q was %q with %d synced, is %q with %d", x, keep, g.name, was, f.synced, g.all, g.synced)
		}
	}
}

func runAtRandom(t *testing.T, seed uint64, steps int) {
	t.Helper()
	s := source(seed)
	room := s.below(40)
	d := made(t, room)
	m := &model{room: room}
	for range steps {
		x := someStep(&s)
		before := look(t, d)
		keep := m.keep
		if x.kind == 5 {
			keep = x.keep
		}
		want := m.run(x)
		got := x.run(d)
		after := look(t, d)
		if got != want || !after.same(m.face()) {
			t.Fatalf("seed %d: behind %v: error %d, want %d; the disk is %v, want %v", seed, x, got, want, after, m.face())
		}
		if after.used > after.room {
			t.Fatalf("seed %d: used %d of %d", seed, after.used, after.room)
		}
		ofFuse := got == api.ErrDown && !before.down
		if got != api.OK && !ofFuse && !after.same(before) {
			t.Fatalf("seed %d: behind the error %d of %v: %v, want %v", seed, got, x, after, before)
		}
		wantSyncedStays(t, x, got, before, after)
		if !before.down && after.down {
			wantTornTails(t, x, keep, before, after)
		}
	}
}

func TestDisksAtRandom(t *testing.T) {
	for seed := range uint64(400) {
		runAtRandom(t, seed, 150)
	}
}

func FuzzDisk(f *testing.F) {
	for seed := range uint64(10) {
		f.Add(seed)
	}
	f.Fuzz(func(t *testing.T, seed uint64) { runAtRandom(t, seed, 300) })
}
