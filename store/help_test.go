package store_test

import (
	"cmp"
	"fmt"
	"math"
	"slices"
	"strings"
	"testing"

	"orchard/api"
	"orchard/ckpt"
	"orchard/disk"
	"orchard/record"
	"orchard/store"
	"orchard/wire"
)

const (
	roomy        = 1 << 24
	latest       = 1 << 40 // a round, a slot
	replicas     = 5
	longestEntry = 1<<16 - 64
	longestState = 1 << 19
)

// source is a sequence that is the same in each run.
type source uint64

func (s *source) next() uint64 {
	*s = *s*6364136223846793005 + 1442695040888963407
	return uint64(*s >> 33)
}

func (s *source) below(n int) int { return int(s.next() % uint64(n)) }

func oneOf[T any](s *source, l []T) T { return l[s.below(len(l))] }

func ballot(round int64, replica int) api.Ballot { return api.Ballot{Round: round, Replica: replica} }

func below(a, b api.Ballot) bool {
	return a.Round < b.Round || a.Round == b.Round && a.Replica < b.Replica
}

// noBallots are ballots that may not be.
func noBallots() []api.Ballot {
	return []api.Ballot{
		{}, ballot(0, 1), ballot(-1, 0), ballot(latest+1, 0), ballot(1, -1), ballot(1, replicas), ballot(latest+1, replicas),
		ballot(math.MinInt64, 0), ballot(math.MaxInt64, 4), ballot(7, math.MinInt), ballot(7, math.MaxInt),
	}
}

// noSlots are numbers that may not be slots.
func noSlots() []int64 { return []int64{-1, latest + 1, math.MinInt64, math.MaxInt64, -latest} }

func sampleOps() []api.Op {
	return []api.Op{
		{Stamp: api.Stamp{Time: 70, Site: 3}, Kind: api.OpMove, Node: 1 << 20, Parent: 16, Name: "na\x00me", Key: "k", Value: "\xff"},
		{Kind: api.OpAttr},
	}
}

// samples are entries of each Kind that may be.
func samples() []api.Entry {
	vector := api.Vector{1, 0, 200, 3, 4, 5, 1 << 30, 7}
	epoch := api.Epoch{Number: 9, States: [api.MaxSites]int{1, 2, 3}, Seals: api.Vector{0, 0, 500}, Sponsor: [api.MaxSites]int{-1, -1, 0}}
	return []api.Entry{
		{},
		{Kind: api.EnLocal, Session: 8, Request: 100, Op: sampleOps()[0]},
		{Kind: api.EnRemote, Origin: 2, Seq: 77, Ops: sampleOps()},
		{Kind: api.EnEpoch, Epoch: epoch},
		{Kind: api.EnKnown, Seq: 4, From: 5, Vector: vector, Clock: 90},
		{Kind: api.EnPart, Part: api.Part{Snap: 6, Index: 2, Many: 5, Data: []byte{0, 128, 255}}},
		{Kind: api.EnJoin, Site: 6, Sponsor: 1},
		{Kind: api.EnLeave, Site: 3},
		{Kind: api.EnSealed, Site: 2, Length: 500},
	}
}

// sample is one of the samples, in memory of its own.
func sample(i int) api.Entry {
	l := samples()
	return l[i%len(l)]
}

// noEntries are entries that may not be, or are too long.
func noEntries() []api.Entry {
	return []api.Entry{
		{Site: 1},
		{Kind: -1},
		{Kind: 9},
		{Kind: api.EnLocal, Session: 8, Op: sampleOps()[0]},
		{Kind: api.EnRemote},
		{Kind: api.EnLeave, Site: 8},
		{Kind: api.EnLeave, Site: 3, Ops: sampleOps()},
		{Kind: api.EnPart, Part: api.Part{Index: 5, Many: 5}},
		{Kind: api.EnSealed, Site: 2, Length: latest + 1},
		sized(longestEntry + 1),
		sized(1<<20 + 1),
	}
}

// sized is an entry whose form has so many bytes (from some hundreds on).
func sized(size int) api.Entry {
	op := api.Op{Kind: api.OpMove, Name: strings.Repeat("n", 255), Key: strings.Repeat("k", 255), Value: strings.Repeat("v", 255)}
	const opSize = 5 + 3*257
	many := (size + opSize - 1) / opSize
	e := api.Entry{Kind: api.EnRemote, Ops: slices.Repeat([]api.Op{op}, many)}
	over := 3 + len(num(int64(many))) + many*opSize - size
	for i := 0; over > 0; i++ {
		// Not more of each text: a shorter length would have fewer bytes, too.
		cut := min(over, 150)
		p := [...]*string{&e.Ops[i/3].Name, &e.Ops[i/3].Key, &e.Ops[i/3].Value}[i%3]
		*p = (*p)[cut:]
		over -= cut
	}
	return e
}

// named is a small entry, told from others by its number.
func named(n int64) api.Entry {
	return api.Entry{Kind: api.EnLocal, Session: 8, Request: n, Op: api.Op{Kind: api.OpMake}}
}

// bulky is an entry of some hundred bytes.
func bulky(n int) api.Entry {
	return api.Entry{Kind: api.EnPart, Part: api.Part{Many: 1, Data: []byte(strings.Repeat("x", n))}}
}

// at is an entry for a slot; its ballot counts for nothing.
func at(slot int64, e api.Entry) api.Slotted {
	return api.Slotted{Slot: slot, Ballot: ballot(-7, 99), Entry: e}
}

// with is an entry that was accepted with a ballot.
func with(slot int64, b api.Ballot, e api.Entry) api.Slotted {
	return api.Slotted{Slot: slot, Ballot: b, Entry: e}
}

// num is an int as chapter 1 has it, worked out here once more.
func num(n int64) string {
	u := uint64(n) << 1
	if n < 0 {
		u = uint64(-(n+1))<<1 + 1
	}
	out := ""
	for ; u >= 128; u /= 128 {
		out += string([]byte{byte(u%128 + 128)})
	}
	return out + string([]byte{byte(u)})
}

func form(e api.Entry) string {
	b, err := record.Entry(e)
	if err != api.OK {
		panic(fmt.Sprint("an entry without a form: ", err))
	}
	return num(int64(len(b))) + string(b)
}

// promise, accepted and chosen are records of the log, as the chapter's section 'On the disk' has them.

func promise(b api.Ballot) string { return num(1) + num(b.Round) + num(int64(b.Replica)) }

func accepted(slot int64, b api.Ballot, e api.Entry) string {
	return num(2) + num(b.Round) + num(int64(b.Replica)) + num(slot) + form(e)
}

func chosen(slot int64, e api.Entry) string { return num(3) + num(slot) + form(e) }

// framed are the frames of records, one behind the other.
func framed(records ...string) string {
	all := ""
	for _, r := range records {
		f, _ := wire.Frame([]byte(r))
		all += string(f)
	}
	return all
}

// seg is the name of a segment of the log.
func seg(first int64) string { return fmt.Sprintf("log.%012d", first) }

// ckptFile is the file of a checkpoint.
func ckptFile(slot int64, data string) plain {
	b, err := ckpt.Encode(slot, []byte(data))
	if err != api.OK {
		panic(fmt.Sprint("a checkpoint that may not be: ", err))
	}
	return safe("ckpt", string(b))
}

func wantErr(t *testing.T, what string, got, want api.Errno) {
	t.Helper()
	if got != want {
		t.Errorf("%s: error %d, want %d", what, got, want)
	}
}

func made(t *testing.T, room int) *disk.Disk {
	t.Helper()
	d, err := disk.New(room)
	if d == nil || err != api.OK {
		t.Fatalf("New of %d: %v, error %d", room, d, err)
	}
	return d
}

func opened(t *testing.T, d *disk.Disk) *store.Store {
	t.Helper()
	s, err := store.Open(d)
	if s == nil || err != api.OK {
		t.Fatalf("Open: %v, error %d", s, err)
	}
	return s
}

// fresh is an empty store, and its disk.
func fresh(t *testing.T) (*disk.Disk, *store.Store) {
	t.Helper()
	d := made(t, roomy)
	return d, opened(t, d)
}

// wantNoStore: Open answers an error, and no store beside it.
func wantNoStore(t *testing.T, what string, d *disk.Disk, want api.Errno) {
	t.Helper()
	s, err := store.Open(d)
	wantErr(t, what, err, want)
	if s != nil {
		t.Errorf("%s: beside the error %d there is a store", what, err)
	}
}

// plain is a file as it is seen from outside.
type plain struct {
	name   string
	all    string
	synced int
}

func (f plain) String() string {
	if len(f.all) > 200 {
		return fmt.Sprintf("%s: %q..(%d), synced %d", f.name, f.all[:200], len(f.all), f.synced)
	}
	return fmt.Sprintf("%s: %q, synced %d", f.name, f.all, f.synced)
}

// safe is a file all of which is synced; tailed is one of which less is.
func safe(name, all string) plain { return plain{name, all, len(all)} }

func tailed(name, synced, tail string) plain { return plain{name, synced + tail, len(synced)} }

func lay(t *testing.T, d *disk.Disk, files ...plain) {
	t.Helper()
	for _, f := range files {
		wantErr(t, "Append of what is synced", d.Append(f.name, []byte(f.all[:f.synced])), api.OK)
		wantErr(t, "Sync", d.Sync(f.name), api.OK)
		wantErr(t, "Append of the tail", d.Append(f.name, []byte(f.all[f.synced:])), api.OK)
	}
}

func laid(t *testing.T, files ...plain) *disk.Disk {
	t.Helper()
	d := made(t, roomy)
	lay(t, d, files...)
	return d
}

// logged is a disk with a log of records, and no checkpoint.
func logged(t *testing.T, records ...string) *disk.Disk {
	t.Helper()
	return laid(t, safe(seg(0), framed(records...)))
}

// files sees a disk by a clone of it, so that one that is down is seen, too.
func files(t *testing.T, d *disk.Disk) []plain {
	t.Helper()
	c := d.Clone()
	if c.Down() {
		wantErr(t, "Restart", c.Restart(), api.OK)
	}
	var l []plain
	for name := range c.Names() {
		b, err := c.Read(name)
		wantErr(t, "Read", err, api.OK)
		_, synced, err := c.Size(name)
		wantErr(t, "Size", err, api.OK)
		l = append(l, plain{name, string(b), synced})
	}
	return l
}

func wantFiles(t *testing.T, what string, d *disk.Disk, want ...plain) {
	t.Helper()
	if got := files(t, d); !slices.Equal(got, want) {
		t.Errorf("%s: the files are\n%v, want\n%v", what, got, want)
	}
}

const furthestFuse = 100

// wantChanges: a call changes the disk so many times.
func wantChanges(t *testing.T, what string, d *disk.Disk, want int, call func()) {
	t.Helper()
	wantErr(t, "SetFuse", d.SetFuse(furthestFuse, 0), api.OK)
	call()
	c := d.Clone()
	left := 0
	for !c.Down() {
		c.Append("probe", nil)
		left++
	}
	if got := furthestFuse - left; got != want {
		t.Errorf("%s: the disk was changed %d times, want %d", what, got, want)
	}
	wantErr(t, "SetFuse", d.SetFuse(0, 0), api.OK)
}

// face is a store as it is seen from outside.
type face struct {
	promised    api.Ballot
	first, upto int64
	accepted    []api.Slotted
	chosen      []api.Slotted
	data        string
	broken      bool
}

func sameSlotted(x, y api.Slotted) bool {
	return x.Slot == y.Slot && x.Ballot == y.Ballot && record.SameEntry(x.Entry, y.Entry)
}

func sameList(x, y []api.Slotted) bool { return slices.EqualFunc(x, y, sameSlotted) }

func (x face) same(y face) bool {
	return x.promised == y.promised && x.first == y.first && x.upto == y.upto && x.data == y.data && x.broken == y.broken &&
		sameList(x.accepted, y.accepted) && sameList(x.chosen, y.chosen)
}

func (x face) String() string {
	s := fmt.Sprintf("promised %v, first %d, upto %d, %d bytes, broken %v", x.promised, x.first, x.upto, len(x.data), x.broken)
	for _, a := range x.accepted {
		s += fmt.Sprintf("; accepted %d with %v: kind %d, request %d", a.Slot, a.Ballot, a.Entry.Kind, a.Entry.Request)
	}
	for _, c := range x.chosen {
		s += fmt.Sprintf("; chosen %d: kind %d, request %d", c.Slot, c.Entry.Kind, c.Entry.Request)
	}
	return s
}

// probes are the slots that tests use.
func probes() []int64 {
	l := []int64{latest - 2, latest - 1, latest}
	for i := range int64(48) {
		l = append(l, i)
	}
	slices.Sort(l)
	return l
}

// look sees a store by all calls that tell of it, which must not speak against one another.
func look(t *testing.T, s *store.Store) face {
	t.Helper()
	x := face{promised: s.Promised(), first: s.First(), upto: s.Upto(), broken: s.Broken()}
	slot, data := s.State()
	if slot != x.first {
		t.Errorf("the checkpoint's slot is %d, and First is %d", slot, x.first)
	}
	x.data = string(data)
	for _, slot := range probes() {
		if a, is := s.Accepted(slot); is {
			x.accepted = append(x.accepted, a)
		}
		if e, is := s.Chosen(slot); is {
			x.chosen = append(x.chosen, api.Slotted{Slot: slot, Entry: e})
		}
	}
	for _, slot := range noSlots() {
		_, a := s.Accepted(slot)
		_, c := s.Chosen(slot)
		if a || c {
			t.Errorf("for the slot %d there is something: %v, %v", slot, a, c)
		}
	}
	for _, from := range []int64{math.MinInt64, 0, x.first + 1, x.upto, x.upto + 1, x.upto + 2, latest, math.MaxInt64} {
		if got, want := told(s, from), rowOf(x.chosen, max(from, x.first)); !sameList(got, want) {
			t.Errorf("All(%d): %v, want %v", from, got, want)
		}
	}
	return x
}

// told is what All tells.
func told(s *store.Store, from int64) []api.Slotted {
	var l []api.Slotted
	for slot, e := range s.All(from) {
		l = append(l, api.Slotted{Slot: slot, Entry: e})
	}
	return l
}

// rowOf are those of a list, by slots, for a slot and the ones behind it, without a gap.
func rowOf(l []api.Slotted, slot int64) []api.Slotted {
	var row []api.Slotted
	for _, x := range l {
		if x.Slot == slot {
			row = append(row, x)
			slot++
		}
	}
	return row
}

func bySlots(l []api.Slotted) []api.Slotted {
	l = slices.Clone(l)
	slices.SortFunc(l, func(x, y api.Slotted) int { return cmp.Compare(x.Slot, y.Slot) })
	return l
}

// since are those of a list with slots from a slot on.
func since(l []api.Slotted, slot int64) []api.Slotted {
	var out []api.Slotted
	for _, x := range l {
		if x.Slot >= slot {
			out = append(out, x)
		}
	}
	return out
}

func wantFace(t *testing.T, what string, s *store.Store, want face) {
	t.Helper()
	if got := look(t, s); !got.same(want) {
		t.Errorf("%s: the store is\n%v, want\n%v", what, got, want)
	}
}

// wantReopened: opened again, it is the same.
func wantReopened(t *testing.T, what string, d *disk.Disk, s *store.Store) {
	t.Helper()
	wantFace(t, what+", opened again", opened(t, d.Clone()), look(t, s))
}

// wantRefused: a call answers an error, and changes neither the store nor its disk.
func wantRefused(t *testing.T, what string, d *disk.Disk, s *store.Store, want api.Errno, call func() api.Errno) {
	t.Helper()
	before, there := look(t, s), files(t, d)
	wantChanges(t, what, d, 0, func() { wantErr(t, what, call(), want) })
	wantFace(t, what, s, before)
	wantFiles(t, what, d, there...)
}

func wantPrepare(t *testing.T, what string, s *store.Store, b api.Ballot, from int64, want ...api.Slotted) {
	t.Helper()
	l, err := s.Prepare(b, from)
	wantErr(t, "Prepare, "+what, err, api.OK)
	if !sameList(l, want) {
		t.Errorf("Prepare, %s: %v, want %v", what, l, want)
	}
}

// refusedPrepare is a Prepare that answers nothing beside its error.
func refusedPrepare(t *testing.T, s *store.Store, b api.Ballot, from int64) func() api.Errno {
	return func() api.Errno {
		t.Helper()
		l, err := s.Prepare(b, from)
		if l != nil {
			t.Errorf("Prepare(%v, %d): beside the error %d there is %v", b, from, err, l)
		}
		return err
	}
}

// crashed is a disk like d behind a crash and a restart.
func crashed(t *testing.T, d *disk.Disk, keep int) *disk.Disk {
	t.Helper()
	c := d.Clone()
	wantErr(t, "Crash", c.Crash(keep), api.OK)
	wantErr(t, "Restart", c.Restart(), api.OK)
	return c
}

// full is a disk with a store that has some of everything: First is 3, Upto 6, and it has promised more than it has accepted with.
func full(t *testing.T) *disk.Disk {
	t.Helper()
	records := []string{promise(ballot(1, 0))}
	for i := range int64(9) {
		records = append(records, accepted(i, ballot(1+i%3, 1), sample(int(i))))
		if i < 6 || i > 7 {
			records = append(records, chosen(i, sample(int(i))))
		}
	}
	records = append(records, promise(ballot(7, 2)))
	return laid(t, ckptFile(3, "state"), safe(seg(0), framed(records...)))
}

func fullFace() face {
	x := face{promised: ballot(7, 2), first: 3, upto: 6, data: "state"}
	for i := int64(3); i < 9; i++ {
		x.accepted = append(x.accepted, with(i, ballot(1+i%3, 1), sample(int(i))))
		if i < 6 || i > 7 {
			x.chosen = append(x.chosen, with(i, api.Ballot{}, sample(int(i))))
		}
	}
	return x
}
