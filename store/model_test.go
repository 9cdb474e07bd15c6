package store_test

import (
	"fmt"
	"slices"
	"strings"
	"testing"

	"orchard/api"
	"orchard/ckpt"
	"orchard/disk"
	"orchard/record"
	"orchard/store"
	"orchard/wal"
	"orchard/wire"
)

// All of the chapter at once: stores that are driven at random, held against a plain telling of the chapter, which does on a disk of its own what the chapter says is done: both disks have to stay the same, byte by byte.

// model is the chapter's words, one by one; its lists are in the order in which slots came.
type model struct {
	d        *disk.Disk
	log      *wal.Log
	promised api.Ballot
	first    int64
	accepted []api.Slotted
	chosen   []api.Slotted
	data     string
	broken   bool
}

func mayBe(b api.Ballot) bool {
	return b.Round >= 1 && b.Round <= 1<<40 && b.Replica >= 0 && b.Replica <= 4
}

func mayBeSlot(n int64) bool { return n >= 0 && n <= 1<<40 }

func find(l []api.Slotted, slot int64) (api.Slotted, bool) {
	for _, x := range l {
		if x.Slot == slot {
			return x, true
		}
	}
	return api.Slotted{}, false
}

func replaced(l []api.Slotted, x api.Slotted) []api.Slotted {
	l = slices.DeleteFunc(slices.Clone(l), func(old api.Slotted) bool { return old.Slot == x.Slot })
	return append(l, x)
}

// parsed is a record of the log: what it says, written again, must be it.
func parsed(b string) (int64, api.Slotted, bool) {
	var x api.Slotted
	r := wire.NewReader([]byte(b))
	kind, _ := r.Int()
	if kind == 1 || kind == 2 {
		x.Ballot.Round, _ = r.Int()
		n, _ := r.Int()
		x.Ballot.Replica = int(n)
		if !mayBe(x.Ballot) {
			return 0, x, false
		}
	}
	if kind == 1 {
		return kind, x, promise(x.Ballot) == b
	}
	x.Slot, _ = r.Int()
	form, _ := r.Bytes()
	e, err := record.TakeEntry(form)
	if err != api.OK || !mayBeSlot(x.Slot) {
		return 0, x, false
	}
	x.Entry = e
	return kind, x, kind == 2 && accepted(x.Slot, x.Ballot, e) == b || kind == 3 && chosen(x.Slot, e) == b
}

func modelOpen(d *disk.Disk) (*model, api.Errno) {
	slot, data, err := ckpt.Load(d)
	if err != api.OK && err != api.ErrNone {
		return nil, err
	}
	log, err := wal.Open(d, "log")
	if err != api.OK {
		return nil, err
	}
	m := &model{d: d, log: log, first: slot, data: string(data)}
	for _, b := range log.Records() {
		kind, x, ok := parsed(string(b))
		if !ok || !m.reads(kind, x) {
			return nil, api.ErrDisk
		}
	}
	return m, api.OK
}

func (m *model) reads(kind int64, x api.Slotted) bool {
	if kind != 3 && below(m.promised, x.Ballot) {
		m.promised = x.Ballot
	}
	if kind == 1 || x.Slot < m.first {
		return true
	}
	if kind == 2 {
		if old, is := find(m.accepted, x.Slot); !is || !below(x.Ballot, old.Ballot) {
			m.accepted = replaced(m.accepted, x)
		}
		return true
	}
	old, is := find(m.chosen, x.Slot)
	m.chosen = replaced(m.chosen, x)
	return !is || form(old.Entry) == form(x.Entry)
}

func (m *model) upto() int64 {
	slot := m.first
	for {
		if _, is := find(m.chosen, slot); !is {
			return slot
		}
		slot++
	}
}

func (m *model) face() face {
	return face{m.promised, m.first, m.upto(), bySlots(m.accepted), bySlots(m.chosen), m.data, m.broken}
}

// asks does what is asked of the disk, one by one, up to an error, by which the store is broken.
func (m *model) asks(l ...func() api.Errno) api.Errno {
	for _, ask := range l {
		if err := ask(); err != api.OK {
			m.broken = true
			return err
		}
	}
	return api.OK
}

func (m *model) appends(records ...string) func() api.Errno {
	var l [][]byte
	for _, r := range records {
		l = append(l, []byte(r))
	}
	return func() api.Errno { return m.log.Append(l...) }
}

func (m *model) prepare(b api.Ballot, from int64) ([]api.Slotted, api.Errno) {
	switch {
	case m.broken:
		return nil, api.ErrBroken
	case !mayBe(b) || !mayBeSlot(from):
		return nil, api.ErrArg
	case below(b, m.promised):
		return nil, api.ErrLow
	}
	if b != m.promised {
		if err := m.asks(m.appends(promise(b)), m.log.Sync); err != api.OK {
			return nil, err
		}
	}
	m.promised = b
	return bySlots(since(m.accepted, from)), api.OK
}

// slotsBad and entriesBad tell whether one of a list is.

func slotsBad(l []api.Slotted, first int64) bool {
	for i, x := range l {
		if _, twice := find(l[:i], x.Slot); twice || !mayBeSlot(x.Slot) || x.Slot < first {
			return true
		}
	}
	return false
}

func entriesBad(l []api.Slotted) bool {
	for _, x := range l {
		if b, err := record.Entry(x.Entry); err != api.OK || len(b) > 1<<16-64 {
			return true
		}
	}
	return false
}

func (m *model) accept(b api.Ballot, l ...api.Slotted) api.Errno {
	switch {
	case m.broken:
		return api.ErrBroken
	case !mayBe(b):
		return api.ErrArg
	case slotsBad(l, m.first):
		return api.ErrSlot
	case entriesBad(l):
		return api.ErrArg
	case below(b, m.promised):
		return api.ErrLow
	case len(l) == 0:
		_, err := m.prepare(b, 0)
		return err
	}
	var records []string
	for _, x := range l {
		records = append(records, accepted(x.Slot, b, x.Entry))
	}
	if err := m.asks(m.appends(records...), m.log.Sync); err != api.OK {
		return err
	}
	m.promised = b
	for _, x := range l {
		m.accepted = replaced(m.accepted, with(x.Slot, b, x.Entry))
	}
	return api.OK
}

func (m *model) choose(l ...api.Slotted) api.Errno {
	switch {
	case m.broken:
		return api.ErrBroken
	case slotsBad(l, 0):
		return api.ErrSlot
	case entriesBad(l):
		return api.ErrArg
	}
	var records []string
	var news []api.Slotted
	for _, x := range l {
		old, is := find(m.chosen, x.Slot)
		if is && form(old.Entry) != form(x.Entry) {
			return api.ErrClash
		}
		if !is && x.Slot >= m.first {
			records = append(records, chosen(x.Slot, x.Entry))
			news = append(news, with(x.Slot, api.Ballot{}, x.Entry))
		}
	}
	if len(news) == 0 {
		return api.OK
	}
	if err := m.asks(m.appends(records...)); err != api.OK {
		return err
	}
	m.chosen = append(m.chosen, news...)
	return api.OK
}

func (m *model) checkpoint(slot int64, data string) api.Errno {
	switch {
	case m.broken:
		return api.ErrBroken
	case slot <= m.first || slot > m.upto():
		return api.ErrSlot
	}
	return m.advance(slot, data)
}

func (m *model) install(slot int64, data string) api.Errno {
	switch {
	case m.broken:
		return api.ErrBroken
	case slot <= m.upto() || !mayBeSlot(slot):
		return api.ErrSlot
	}
	return m.advance(slot, data)
}

func (m *model) advance(slot int64, data string) api.Errno {
	if len(data) > 1<<19 {
		return api.ErrLong
	}
	if _, err := ckpt.Encode(slot, []byte(data)); err != api.OK {
		return err // ckpt.Save's, but not the disk's
	}
	next := m.log.Next()
	behind := m.face().behind(slot, data)
	err := m.asks(
		func() api.Errno { return ckpt.Save(m.d, slot, []byte(data)) },
		m.appends(behind.left()...),
		m.log.Sync,
		func() api.Errno { return m.log.Cut(next) },
	)
	if err != api.OK {
		return err
	}
	m.first, m.data, m.accepted, m.chosen = slot, data, behind.accepted, behind.chosen
	return api.OK
}

// pair is a store and its model, each with its disk.
type pair struct {
	src *source
	d   *disk.Disk
	s   *store.Store
	m   *model
}

func (p *pair) disks() []*disk.Disk { return []*disk.Disk{p.d, p.m.d} }

func (p *pair) ballot() api.Ballot {
	b := p.m.promised
	switch k := p.src.below(30); {
	case k == 0:
		return oneOf(p.src, noBallots())
	case k == 1:
		return ballot(latest-int64(p.src.below(2)), p.src.below(replicas))
	case k < 6:
		return ballot(1+int64(p.src.below(5)), p.src.below(replicas))
	case k < 12:
		return ballot(b.Round+1, p.src.below(replicas))
	}
	return b
}

func (p *pair) slot() int64 {
	switch k := p.src.below(60); {
	case k == 0:
		return oneOf(p.src, noSlots())
	case k == 1:
		return latest - int64(p.src.below(2))
	case k == 2:
		return p.m.first - 1
	case p.m.first >= latest-2:
		return latest - int64(p.src.below(3))
	}
	return min(p.m.first, 30) + int64(p.src.below(10))
}

// entry is mostly the one that is the slot's own, so that few choices clash.
func (p *pair) entry(slot int64) api.Entry {
	switch k := p.src.below(40); {
	case k == 0:
		return oneOf(p.src, noEntries()[:9])
	case k == 1:
		return sample(p.src.below(9))
	case k == 2:
		return bulky(p.src.below(900))
	}
	return sample(int(max(slot, 0) % 9))
}

func (p *pair) list() []api.Slotted {
	var l []api.Slotted
	for range oneOf(p.src, []int{0, 1, 1, 1, 2, 3, 5}) {
		slot := p.slot()
		if _, twice := find(l, slot); twice && p.src.below(8) > 0 {
			continue
		}
		l = append(l, at(slot, p.entry(slot)))
	}
	return l
}

// step does one thing to both; it tells what, and what both answered.
func (p *pair) step(t *testing.T) (string, api.Errno, api.Errno) {
	src := p.src
	switch src.below(20) {
	case 0, 1, 2:
		b, from := p.ballot(), p.slot()
		got, err := p.s.Prepare(b, from)
		want, due := p.m.prepare(b, from)
		if !sameList(got, want) {
			t.Errorf("Prepare(%v, %d): %v, want %v", b, from, got, want)
		}
		return fmt.Sprintf("Prepare(%v, %d)", b, from), err, due
	case 3, 4, 5, 6, 7:
		b, l := p.ballot(), p.list()
		return fmt.Sprintf("Accept(%v, %d)", b, len(l)), p.s.Accept(b, l...), p.m.accept(b, l...)
	case 8, 9, 10, 11:
		l := p.list()
		return fmt.Sprintf("Choose(%d)", len(l)), p.s.Choose(l...), p.m.choose(l...)
	case 12:
		slot := p.m.upto()
		l := []api.Slotted{at(slot, sample(int(slot%9)))}
		return "Choose of the next one", p.s.Choose(l...), p.m.choose(l...)
	case 13:
		slot, data := p.m.first+int64(src.below(int(p.m.upto()-p.m.first)+3)), strings.Repeat("c", src.below(200))
		return fmt.Sprintf("Checkpoint(%d)", slot), p.s.Checkpoint(slot, []byte(data)), p.m.checkpoint(slot, data)
	case 14:
		if src.below(4) > 0 {
			return "nothing", api.OK, api.OK
		}
		slot, data := p.m.upto()+int64(src.below(3)), strings.Repeat("i", src.below(200))
		if src.below(4) == 0 {
			slot = latest - int64(src.below(3)) // from there on it is not far to an Upto that is no slot
		}
		return fmt.Sprintf("Install(%d)", slot), p.s.Install(slot, []byte(data)), p.m.install(slot, data)
	case 15, 16:
		k, keep := src.below(9), src.below(60)
		return fmt.Sprintf("SetFuse(%d, %d)", k, keep), p.d.SetFuse(k, keep), p.m.d.SetFuse(k, keep)
	case 17:
		if src.below(3) > 0 {
			return "nothing", api.OK, api.OK
		}
		keep := src.below(60)
		return fmt.Sprintf("Crash(%d)", keep), p.d.Crash(keep), p.m.d.Crash(keep)
	}
	return p.reopen()
}

// reopen restarts the disks, if they are down, sometimes spoils them, and opens both again. Where both refuse, they begin anew.
func (p *pair) reopen() (string, api.Errno, api.Errno) {
	name, bytes := "ckpt.new", "lost"
	switch p.src.below(60) {
	case 0:
		name, bytes = seg(p.m.log.Next()), framed("\x06\x02\x02")
	case 1:
		name, bytes = "ckpt", "behind it"
	case 2:
		name, bytes = seg(p.m.log.Next()), framed(chosen(p.m.first, sample(p.src.below(9))))
	case 3:
		name, bytes = seg(p.m.log.Next()), framed(accepted(p.m.first, ballot(1, 0), sample(p.src.below(9))))+"torn"
	}
	spoil := p.src.below(4) == 0
	for _, d := range p.disks() {
		d.Restart()
		d.SetFuse(0, 0)
		if spoil {
			d.Append(name, []byte(bytes))
		}
	}
	s, err := store.Open(p.d)
	m, due := modelOpen(p.m.d)
	if err != api.OK && due != api.OK {
		d, twin := p.disks()[0].Clone(), p.disks()[1].Clone()
		for _, x := range []*disk.Disk{d, twin} {
			for name := range x.Names() {
				x.Remove(name)
			}
		}
		p.d = d
		p.s, _ = store.Open(d)
		p.m, _ = modelOpen(twin)
		return "a new beginning", err, due
	}
	if err == api.OK && due == api.OK {
		p.s, p.m = s, m
	}
	return "Open", err, due
}

func newPair(t *testing.T, src *source, room int) *pair {
	t.Helper()
	p := &pair{src: src, d: made(t, room)}
	p.s = opened(t, p.d)
	m, err := modelOpen(made(t, room))
	wantErr(t, "the model's Open", err, api.OK)
	p.m = m
	return p
}

func runAtRandom(t *testing.T, seed uint64, steps int) {
	t.Helper()
	src := source(seed)
	p := newPair(t, &src, oneOf(&src, []int{roomy, roomy, 3000, 800}))
	for i := range steps {
		if p.m.upto() > 36 && p.m.first < latest-2 {
			return // the probes end there
		}
		step, got, want := p.step(t)
		what := fmt.Sprintf("seed %d, step %d: %s", seed, i, step)
		if got != want {
			t.Fatalf("%s: error %d, want %d", what, got, want)
		}
		wantFace(t, what, p.s, p.m.face())
		wantFiles(t, what, p.d, files(t, p.m.d)...)
		if p.d.Down() != p.m.d.Down() {
			t.Errorf("%s: down is %v", what, p.d.Down())
		}
		if t.Failed() {
			t.FailNow()
		}
	}
}

func TestStoresAtRandom(t *testing.T) {
	for seed := range uint64(400) {
		runAtRandom(t, seed, 120)
	}
}

func FuzzStore(f *testing.F) {
	for seed := range uint64(10) {
		f.Add(seed)
	}
	f.Fuzz(func(t *testing.T, seed uint64) { runAtRandom(t, seed, 300) })
}
