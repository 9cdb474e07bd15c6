package ckpt_test

import (
	"fmt"
	"slices"
	"strings"
	"testing"

	"orchard/api"
	"orchard/disk"
)

// All of the chapter at once: checkpoints that are saved and loaded at random, on disks that fall, are full and are tampered with, held against a plain telling of the chapter on a disk of its own.

func hasFile(d *disk.Disk, name string) bool {
	return slices.Contains(slices.Collect(d.Names()), name)
}

func saveModel(d *disk.Disk, p point) api.Errno {
	if p.slot < 0 || p.slot > latest {
		return api.ErrArg
	}
	if len(p.data) > longest {
		return api.ErrLong
	}
	steps := []func() api.Errno{
		func() api.Errno { return d.Append(spare, []byte(encodedOf(p))) },
		func() api.Errno { return d.Sync(spare) },
		func() api.Errno { return d.Rename(spare, old) },
	}
	if hasFile(d, spare) {
		steps = slices.Insert(steps, 0, func() api.Errno { return d.Remove(spare) })
	}
	for _, step := range steps {
		if err := step(); err != api.OK {
			return err
		}
	}
	return api.OK
}

func loadModel(d *disk.Disk) point {
	if d.Down() {
		return wrong(api.ErrDown)
	}
	if hasFile(d, spare) {
		if err := d.Remove(spare); err != api.OK {
			return wrong(err)
		}
	}
	if !hasFile(d, old) {
		return wrong(api.ErrNone)
	}
	b, _ := d.Read(old)
	return decodeModel(string(b))
}

// decodeModel tries each way in which b may be a slot and data: by where the data may begin and end.
func decodeModel(b string) point {
	for size := 1; size <= 4 && size < len(b)-4; size++ {
		body := b[size : len(b)-4]
		for at := 2; at <= len(body) && at <= 12; at++ {
			p := point{slotOf(body), body[at:], api.OK}
			if p.slot >= 0 && p.slot <= latest && len(p.data) <= longest && encodedOf(p) == b {
				return p
			}
		}
	}
	return wrong(api.ErrCkpt)
}

func slotOf(body string) int64 {
	var u uint64
	for i := range min(10, len(body)) {
		u |= uint64(body[i]&127) << (7 * i)
		if body[i] < 128 {
			break
		}
	}
	return int64(u >> 1)
}

func someSlot(s *source) int64 {
	switch s.below(12) {
	case 0:
		return -1 - int64(s.below(3))
	case 1:
		return latest - 1 + int64(s.below(3))
	case 2:
		return int64(s.next())<<9 + int64(s.below(512))
	}
	return int64(s.below(200))
}

func someData(s *source) string {
	switch s.below(40) {
	case 0:
		return strings.Repeat("x", longest+s.below(2))
	case 1, 2:
		return ""
	case 3:
		return s.text(s.below(300))
	}
	return s.text(s.below(20))
}

// tamper is a file, and bytes that are to be put to it, as no Save puts them.
func tamper(s *source) (string, string) {
	name := []string{old, spare, spare, "other"}[s.below(4)]
	switch s.below(4) {
	case 0:
		return name, encoded(someSlot(s), s.text(s.below(9)))
	case 1:
		return name, framed(s.text(s.below(9)))
	case 2:
		return name, ""
	}
	return name, s.text(s.below(9))
}

// both does one thing to a disk and to the model's, and is what both answered.
func both(s *source, d, m *disk.Disk) (string, point, point) {
	step := func(what string, call func(d *disk.Disk) api.Errno) (string, point, point) {
		return what, wrong(call(d)), wrong(call(m))
	}
	switch s.below(12) {
	case 0:
		k, keep := s.below(8), s.below(40)
		return step(fmt.Sprintf("SetFuse(%d, %d)", k, keep), func(d *disk.Disk) api.Errno { return d.SetFuse(k, keep) })
	case 1:
		keep := s.below(20)
		return step(fmt.Sprintf("Crash(%d)", keep), func(d *disk.Disk) api.Errno { return d.Crash(keep) })
	case 2, 3:
		return step("Restart", (*disk.Disk).Restart)
	case 4:
		name, b := tamper(s)
		return step("Append to "+name, func(d *disk.Disk) api.Errno { return d.Append(name, []byte(b)) })
	case 5:
		name := []string{old, spare, "other"}[s.below(3)]
		return step("Remove of "+name, func(d *disk.Disk) api.Errno { return d.Remove(name) })
	case 6, 7, 8:
		return "Load", load(d), loadModel(m)
	}
	p := point{someSlot(s), someData(s), api.OK}
	return fmt.Sprintf("Save of %v", p), wrong(save(d, p)), wrong(saveModel(m, p))
}

func runAtRandom(t *testing.T, seed uint64, steps int) {
	t.Helper()
	s := source(seed)
	d := made(t, []int{roomy, roomy, 30 + s.below(100)}[s.below(3)])
	m := d.Clone()
	for i := range steps {
		step, got, want := both(&s, d, m)
		what := fmt.Sprintf("seed %d, step %d: %s", seed, i, step)
		if got != want {
			t.Fatalf("%s: %v, want %v", what, got, want)
		}
		if x, y := look(t, d), look(t, m); !x.same(y) {
			t.Fatalf("%s: the disk is %v, want %v", what, x, y)
		}
	}
}

func TestCheckpointsAtRandom(t *testing.T) {
	for seed := range uint64(250) {
		runAtRandom(t, seed, 120)
	}
}

func FuzzCkpt(f *testing.F) {
	for seed := range uint64(10) {
		f.Add(seed)
	}
	f.Fuzz(func(t *testing.T, seed uint64) { runAtRandom(t, seed, 200) })
}
