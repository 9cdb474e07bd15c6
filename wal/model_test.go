package wal_test

import (
	"fmt"
	"slices"
	"strings"
	"testing"

	"orchard/api"
	"orchard/disk"
	"orchard/wal"
)

// All of the chapter at once: logs that are driven at random, on disks that fall, are full and are tampered with, held against a plain telling of the chapter on a disk of its own.

// part is a segment of the model.
type part struct {
	first   int64
	records []string
	bytes   int
	fresh   bool // something was appended to it since it was synced
}

// model is the chapter's words, one by one.
type model struct {
	d            *disk.Disk
	parts        []part
	next, synced int64
	spoilt       bool
}

func (m *model) told() told {
	x := told{first: m.next, next: m.next, synced: m.synced, segments: len(m.parts)}
	for _, p := range m.parts {
		x.first = min(x.first, p.first)
		x.records = append(x.records, p.records...)
	}
	return x
}

// partsOf are the segments of a disk, each with all bytes of its file.
func partsOf(d *disk.Disk) ([]part, []string) {
	var parts []part
	var all []string
	for name := range d.Names() {
		var first int64
		n, err := fmt.Sscanf(name, "log.%d", &first)
		if n != 1 || err != nil || name != seg(first) {
			continue
		}
		b, _ := d.Read(name)
		parts = append(parts, part{first: first})
		all = append(all, string(b))
	}
	return parts, all
}

// recordsOf are the records of the longest list whose frames are a beginning of all, found by trying each length of the next one's.
func recordsOf(all string) ([]string, string) {
	var records []string
	for {
		took := false
		for head := 1; head <= 3 && head < len(all) && !took; head++ {
			n := 0
			for i := range head {
				n |= int(all[i]&127) << (7 * i)
			}
			if n%2 == 1 || n == 0 || head+n/2 > len(all) {
				continue
			}
			record := all[head : head+n/2]
			if strings.HasPrefix(all, framed(record)) {
				records = append(records, record)
				all = all[len(framed(record)):]
				took = true
			}
		}
		if !took {
			return records, all
		}
	}
}

func openModel(d *disk.Disk) (*model, api.Errno) {
	if d.Down() {
		return nil, api.ErrDown
	}
	m := &model{d: d}
	var all []string
	m.parts, all = partsOf(d)
	for i := range m.parts {
		p := &m.parts[i]
		var rest string
		p.records, rest = recordsOf(all[i])
		p.bytes = len(all[i]) - len(rest)
		m.next = p.first + int64(len(p.records))
		if i < len(m.parts)-1 {
			if rest != "" || m.next != m.parts[i+1].first {
				return nil, api.ErrSpoilt
			}
			continue
		}
		if rest != "" {
			if err := m.cutOff(all[i][:p.bytes]); err != api.OK {
				return nil, err
			}
		}
	}
	for _, p := range m.parts {
		if n, synced, _ := d.Size(seg(p.first)); synced < n {
			if err := d.Sync(seg(p.first)); err != api.OK {
				return nil, err
			}
		}
	}
	m.synced = m.next
	return m, api.OK
}

func (m *model) cutOff(frames string) api.Errno {
	last := m.parts[len(m.parts)-1]
	if frames == "" {
		m.parts = m.parts[:len(m.parts)-1]
		return m.d.Remove(seg(last.first))
	}
	if slices.Contains(slices.Collect(m.d.Names()), "new") {
		if err := m.d.Remove("new"); err != api.OK {
			return err
		}
	}
	if err := m.d.Append("new", []byte(frames)); err != api.OK {
		return err
	}
	if err := m.d.Sync("new"); err != api.OK {
		return err
	}
	return m.d.Rename("new", seg(last.first))
}

func (m *model) append(records []string) api.Errno {
	if m.spoilt {
		return api.ErrSpoilt
	}
	for _, r := range records {
		if r == "" || len(r) > longest {
			return api.ErrRecord
		}
	}
	for i := range records {
		if m.next+int64(i) > highest {
			return api.ErrLong
		}
	}
	for _, r := range records {
		if err := m.one(r); err != api.OK {
			m.spoilt = true
			return err
		}
	}
	return api.OK
}

func (m *model) one(r string) api.Errno {
	if n := len(m.parts); n == 0 || m.parts[n-1].bytes >= 1024 {
		if n > 0 && m.parts[n-1].fresh {
			if err := m.d.Sync(seg(m.parts[n-1].first)); err != api.OK {
				return err
			}
			m.parts[n-1].fresh = false
		}
		if err := m.d.Append(seg(m.next), []byte(framed(r))); err != api.OK {
			return err
		}
		m.parts = append(m.parts, part{first: m.next})
	} else if err := m.d.Append(seg(m.parts[n-1].first), []byte(framed(r))); err != api.OK {
		return err
	}
	p := &m.parts[len(m.parts)-1]
	p.records = append(p.records, r)
	p.bytes += len(framed(r))
	p.fresh = true
	m.next++
	return api.OK
}

func (m *model) sync() api.Errno {
	if m.spoilt {
		return api.ErrSpoilt
	}
	for i, p := range m.parts {
		if !p.fresh {
			continue
		}
		if err := m.d.Sync(seg(p.first)); err != api.OK {
			m.spoilt = true
			return err
		}
		m.parts[i].fresh = false
	}
	m.synced = m.next
	return api.OK
}

func (m *model) cut(before int64) api.Errno {
	for len(m.parts) > 1 {
		for i := range m.parts[0].records {
			if m.parts[0].first+int64(i) >= before {
				return api.OK
			}
		}
		if err := m.d.Remove(seg(m.parts[0].first)); err != api.OK {
			return err
		}
		m.parts = m.parts[1:]
	}
	return api.OK
}

// pair is a log and its model, each on its own disk.
type pair struct {
	s *source
	d *disk.Disk
	l *wal.Log
	m *model
}

func someRecord(s *source) string {
	switch k := s.below(200); {
	case k == 0:
		return strings.Repeat("x", longest+s.below(2))
	case k < 5:
		return ""
	case k < 20:
		return s.text(1000 + s.below(40))
	case k < 60:
		return s.text(1 + s.below(600))
	}
	return s.text(1 + s.below(20))
}

// step does one thing to both, and is what both answered.
func (p *pair) step() (string, api.Errno, api.Errno) {
	s := p.s
	switch s.below(12) {
	case 0, 1:
		return "Sync", p.l.Sync(), p.m.sync()
	case 2:
		before := p.m.told().first + int64(s.below(10)) - 2
		return fmt.Sprintf("Cut(%d)", before), p.l.Cut(before), p.m.cut(before)
	case 3:
		k, keep := s.below(10), s.below(50)
		return fmt.Sprintf("SetFuse(%d, %d)", k, keep), p.d.SetFuse(k, keep), p.m.d.SetFuse(k, keep)
	case 4:
		keep := s.below(1100)
		return fmt.Sprintf("Crash(%d)", keep), p.d.Crash(keep), p.m.d.Crash(keep)
	}
	var records []string
	for range s.below(5) {
		records = append(records, someRecord(s))
	}
	return fmt.Sprintf("Append of %d", len(records)), p.l.Append(list(records...)...), p.m.append(records)
}

// tamper puts something on both disks that no log puts there.
func (p *pair) tamper() {
	s := p.s
	parts, _ := partsOf(p.m.d)
	name, b := "new", []byte(s.text(s.below(30)))
	if len(parts) > 0 && s.below(3) > 0 {
		at := parts[len(parts)-1]
		if s.below(20) == 0 {
			at = parts[s.below(len(parts))]
		}
		name = seg(at.first)
		switch s.below(4) {
		case 0:
			b = []byte(framed(s.text(1+s.below(9)), s.text(s.below(2)), s.text(1+s.below(9))))
		case 1:
			b = []byte(framed(s.text(1 + s.below(9)))[:4])
		}
	}
	for _, d := range []*disk.Disk{p.d, p.m.d} {
		d.Append(name, b)
	}
}

// open opens both logs again; it is false, where there is none any more.
func (p *pair) open(t *testing.T, what string) bool {
	t.Helper()
	for range 8 {
		if p.d.Down() {
			wantErr(t, "Restart", p.d.Restart(), api.OK)
			wantErr(t, "Restart", p.m.d.Restart(), api.OK)
		}
		l, got := wal.Open(p.d, "log")
		m, want := openModel(p.m.d)
		if got != want || (l == nil) != (m == nil) {
			t.Fatalf("%s: Open: error %d, want %d", what, got, want)
		}
		p.wantSameDisks(t, what+": Open")
		if got == api.OK {
			p.l, p.m = l, m
			p.wantSame(t, what+": Open")
			return true
		}
		if got != api.ErrDown {
			return false
		}
	}
	return false
}

func (p *pair) wantSameDisks(t *testing.T, what string) {
	t.Helper()
	if got, want := look(t, p.d), look(t, p.m.d); !got.same(want) {
		t.Fatalf("%s: the disk is %v, want %v", what, got, want)
	}
}

func (p *pair) wantSame(t *testing.T, what string) {
	t.Helper()
	p.wantSameDisks(t, what)
	if got, want := tell(t, p.l), p.m.told(); !got.same(want) {
		t.Fatalf("%s: the log is %v, want %v", what, got, want)
	}
}

func runAtRandom(t *testing.T, seed uint64, steps int) {
	t.Helper()
	s := source(seed)
	d := made(t, []int{roomy, roomy, 3000 + s.below(9000)}[s.below(3)])
	if s.below(4) == 0 {
		lay(t, d, plain{seg([]int64{3, 77, highest - 9}[s.below(3)]), "", 0})
	}
	p := &pair{s: &s, d: d, m: &model{d: d.Clone()}}
	if !p.open(t, fmt.Sprintf("seed %d", seed)) {
		return
	}
	for i := range steps {
		step, got, want := p.step()
		what := fmt.Sprintf("seed %d, step %d: %s", seed, i, step)
		if got != want {
			t.Fatalf("%s: error %d, want %d", what, got, want)
		}
		p.wantSame(t, what)
		if !d.Down() && s.below(9) > 0 {
			continue
		}
		if !d.Down() && s.below(3) == 0 {
			p.tamper()
		}
		// While it is down, a call or two more: they answer errors, and spoil the log.
		if d.Down() && s.below(2) == 0 {
			continue
		}
		if !p.open(t, what) {
			return
		}
	}
}

func TestLogsAtRandom(t *testing.T) {
	for seed := range uint64(250) {
		runAtRandom(t, seed, 80)
	}
}

func FuzzLog(f *testing.F) {
	for seed := range uint64(10) {
		f.Add(seed)
	}
	f.Fuzz(func(t *testing.T, seed uint64) { runAtRandom(t, seed, 200) })
}
