package replica_test

import (
	"fmt"
	"slices"
	"strings"
	"testing"

	"orchard/api"
	"orchard/disk"
	"orchard/record"
	"orchard/replica"
	"orchard/store"
)

const (
	roomy        = 1 << 24
	latest       = 1 << 40 // a round, a slot
	group        = 1
	longestEntry = 1<<16 - 64
	longestList  = 4096
	partBytes    = 1 << 14
	longestState = 1 << 19
)

// source is a sequence that is the same in each run.
type source uint64

func (s *source) next() uint64 {
	*s = *s*6364136223846793005 + 1442695040888963407
	return uint64(*s >> 33)
}

func (s *source) below(n int) int { return int(s.next() % uint64(n)) }

func oneOf[T any](s *source, l ...T) T { return l[s.below(len(l))] }

func ballot(round int64, replica int) api.Ballot { return api.Ballot{Round: round, Replica: replica} }

func below(a, b api.Ballot) bool {
	return a.Round < b.Round || a.Round == b.Round && a.Replica < b.Replica
}

func sampleOps() []api.Op {
	return []api.Op{
		{Stamp: api.Stamp{Time: 70, Site: 3}, Kind: api.OpMove, Node: 1 << 20, Parent: 16, Name: "na\x00me", Key: "k", Value: "\xff"},
		{Kind: api.OpAttr},
	}
}

// sample is an entry of each Kind that may be, in memory of its own.
func sample(i int) api.Entry {
	vector := api.Vector{1, 0, 200, 3, 4, 5, 1 << 30, 7}
	epoch := api.Epoch{Number: 9, States: [api.MaxSites]int{1, 2, 3}, Seals: api.Vector{0, 0, 500}, Sponsor: [api.MaxSites]int{-1, -1, 0}}
	switch i % 9 {
	case 1:
		return api.Entry{Kind: api.EnLocal, Session: 8, Request: 100, Op: sampleOps()[0]}
	case 2:
		return api.Entry{Kind: api.EnRemote, Origin: 2, Seq: 77, Ops: sampleOps()}
	case 3:
		return api.Entry{Kind: api.EnEpoch, Epoch: epoch}
	case 4:
		return api.Entry{Kind: api.EnKnown, Seq: 4, From: 5, Vector: vector, Clock: 90}
	case 5:
		return api.Entry{Kind: api.EnPart, Part: api.Part{Snap: 6, Index: 2, Many: 5, Data: []byte{0, 128, 255}}}
	case 6:
		return api.Entry{Kind: api.EnJoin, Site: 6, Sponsor: 1}
	case 7:
		return api.Entry{Kind: api.EnLeave, Site: 3}
	case 8:
		return api.Entry{Kind: api.EnSealed, Site: 2, Length: 500}
	}
	return api.Entry{}
}

// noEntries are entries that may not be.
func noEntries() []api.Entry {
	return []api.Entry{
		{Site: 1},
		{Kind: -1},
		{Kind: 9},
		{Kind: api.EnLocal, Session: 8, Op: sampleOps()[0]},
		{Kind: api.EnRemote},
		{Kind: api.EnLeave, Site: 8},
		{Kind: api.EnLeave, Site: 3, Ops: sampleOps()},
		{Kind: api.EnPart, Part: api.Part{Index: 5, Many: 5}},
		{Kind: api.EnSealed, Site: 2, Length: latest + 1},
	}
}

// named is a small entry, told from others by its number.
func named(n int64) api.Entry {
	return api.Entry{Kind: api.EnLocal, Session: 8, Request: n, Op: api.Op{Kind: api.OpMake}}
}

// tooLong is an entry that may be, but that no store takes: its form has one byte more than one that is long.
func tooLong() api.Entry {
	e := long()
	e.Ops[0].Name += "x"
	return e
}

// long is an entry whose form is as long as a store takes it.
func long() api.Entry {
	op := api.Op{Kind: api.OpMove, Name: strings.Repeat("n", 255), Key: strings.Repeat("k", 255), Value: strings.Repeat("v", 255)}
	e := api.Entry{Kind: api.EnRemote, Ops: slices.Repeat([]api.Op{op}, 85)}
	form, _ := record.Entry(e)
	for i := 0; len(form) > longestEntry; i++ {
		cut := min(len(form)-longestEntry, 150)
		e.Ops[i].Name = e.Ops[i].Name[cut:]
		form, _ = record.Entry(e)
	}
	return e
}

// with is an entry for a slot, with a ballot.
func with(slot int64, b api.Ballot, e api.Entry) api.Slotted {
	return api.Slotted{Slot: slot, Ballot: b, Entry: e}
}

// plain is an entry for a slot, without a ballot.
func plain(slot int64, e api.Entry) api.Slotted { return api.Slotted{Slot: slot, Entry: e} }

func listOf(l ...api.Slotted) []api.Slotted { return l }

// run are small entries for slots, up to below one.
func run(from, to int64, b api.Ballot) []api.Slotted {
	var l []api.Slotted
	for slot := from; slot < to; slot++ {
		l = append(l, with(slot, b, named(slot+1)))
	}
	return l
}

func wantErr(t *testing.T, what string, got, want api.Errno) {
	t.Helper()
	if got != want {
		t.Errorf("%s: error %d, want %d", what, got, want)
	}
}

func tell(m api.Msg) string {
	s := fmt.Sprintf("kind %d, %v to %v, ballot %v, slot %d", m.Kind, m.From, m.To, m.Ballot, m.Slot)
	for _, x := range m.List {
		s += fmt.Sprintf("; %d with %v: kind %d, request %d", x.Slot, x.Ballot, x.Entry.Kind, x.Entry.Request)
	}
	if m.Kind == api.MsForward {
		s += fmt.Sprintf("; kind %d, request %d", m.Entry.Kind, m.Entry.Request)
	}
	if m.Kind == api.MsState {
		s += fmt.Sprintf("; %d of %d of %d, %d bytes", m.Part.Index, m.Part.Many, m.Part.Snap, len(m.Part.Data))
	}
	return s
}

func tellAll(l []api.Msg) string {
	s := fmt.Sprint(len(l), " messages")
	for i, m := range l {
		if i == 40 {
			return s + "\n .."
		}
		s += "\n  " + tell(m)
	}
	return s
}

// wantMsgs: just these messages, in this order, field by field.
func wantMsgs(t *testing.T, what string, got []api.Msg, want ...api.Msg) {
	t.Helper()
	if !slices.EqualFunc(got, want, record.SameMsg) {
		t.Errorf("%s: %s\nwant %s", what, tellAll(got), tellAll(want))
	}
}

// one is a replica with its store and its disk.
type one struct {
	*replica.Replica
	t    *testing.T
	c    api.Conf
	d    *disk.Disk
	s    *store.Store
	name string
}

func newDisk(t *testing.T) *disk.Disk {
	t.Helper()
	d, err := disk.New(roomy)
	wantErr(t, "disk.New", err, api.OK)
	return d
}

// over is a replica over what a disk holds.
func over(t *testing.T, d *disk.Disk, self, n int) *one {
	t.Helper()
	s, err := store.Open(d)
	if err != api.OK {
		t.Fatalf("store.Open: error %d", err)
	}
	o := &one{t: t, c: api.Conf{Group: group, Self: self, N: n}, d: d, s: s}
	o.name = fmt.Sprintf("replica %d of %d", self, n)
	o.Replica, err = replica.New(o.c, s)
	if o.Replica == nil || err != api.OK {
		t.Fatalf("New: %v, error %d", o.Replica, err)
	}
	return o
}

func fresh(t *testing.T, self, n int) *one {
	t.Helper()
	return over(t, newDisk(t), self, n)
}

// again is the replica that is opened from the same disk.
func (o *one) again() *one {
	o.t.Helper()
	return over(o.t, o.d, o.c.Self, o.c.N)
}

// laid is a replica over a store to which something was done first.
func laid(t *testing.T, self, n int, do func(s *store.Store)) *one {
	t.Helper()
	o := fresh(t, self, n)
	do(o.s)
	return o.again()
}

func addr(i int) api.Addr { return api.Addr{Group: group, Replica: i} }

// in is a message that comes from a replica; out is one that goes to it.

func (o *one) in(from int, m api.Msg) api.Msg {
	m.From, m.To = addr(from), addr(o.c.Self)
	return m
}

func (o *one) out(to int, m api.Msg) api.Msg {
	m.From, m.To = addr(o.c.Self), addr(to)
	return m
}

// all is a message to all.
func (o *one) all(m api.Msg) []api.Msg {
	var l []api.Msg
	for i := range o.c.N {
		if i != o.c.Self {
			l = append(l, o.out(i, m))
		}
	}
	return l
}

// The kinds of messages, by their fields.

func prepare(b api.Ballot, slot int64) api.Msg {
	return api.Msg{Kind: api.MsPrepare, Ballot: b, Slot: slot}
}

func promise(b api.Ballot, slot int64, l ...api.Slotted) api.Msg {
	return api.Msg{Kind: api.MsPromise, Ballot: b, Slot: slot, List: l}
}

func accept(b api.Ballot, slot int64, e api.Entry) api.Msg {
	return api.Msg{Kind: api.MsAccept, Ballot: b, List: listOf(with(slot, b, e))}
}

func accepted(b api.Ballot, slot int64) api.Msg {
	return api.Msg{Kind: api.MsAccepted, Ballot: b, Slot: slot}
}

func refuse(b api.Ballot) api.Msg { return api.Msg{Kind: api.MsRefuse, Ballot: b} }

func chosen(l ...api.Slotted) api.Msg { return api.Msg{Kind: api.MsChosen, List: l} }

func beat(b api.Ballot, slot int64) api.Msg {
	return api.Msg{Kind: api.MsBeat, Ballot: b, Slot: slot}
}

func ask(slot int64) api.Msg { return api.Msg{Kind: api.MsAsk, Slot: slot} }

func forward(e api.Entry) api.Msg { return api.Msg{Kind: api.MsForward, Entry: e} }

func state(slot int64, index, many int, data string) api.Msg {
	return api.Msg{Kind: api.MsState, Slot: slot, Part: api.Part{Snap: slot, Index: index, Many: many, Data: []byte(data)}}
}

// tick, step and propose do so, and want no error and just these messages.

func (o *one) tick(want ...api.Msg) {
	o.t.Helper()
	l, err := o.Tick()
	wantErr(o.t, o.name+": Tick", err, api.OK)
	wantMsgs(o.t, o.name+": Tick", l, want...)
}

func (o *one) step(m api.Msg, want ...api.Msg) {
	o.t.Helper()
	what := fmt.Sprintf("%s: Step of %s", o.name, tell(m))
	l, err := o.Step(m)
	wantErr(o.t, what, err, api.OK)
	wantMsgs(o.t, what, l, want...)
}

func (o *one) propose(e api.Entry, want ...api.Msg) {
	o.t.Helper()
	l, err := o.Propose(e)
	wantErr(o.t, o.name+": Propose", err, api.OK)
	wantMsgs(o.t, o.name+": Propose", l, want...)
}

// do does it without a look at its messages.
func (o *one) do(m api.Msg) {
	o.t.Helper()
	if _, err := o.Step(m); err != api.OK {
		o.t.Fatalf("%s: Step of %s: error %d", o.name, tell(m), err)
	}
}

// refused: a call answers an error, and nothing beside it.
func (o *one) refused(what string, want api.Errno, l []api.Msg, err api.Errno) {
	o.t.Helper()
	wantErr(o.t, o.name+": "+what, err, want)
	if l != nil {
		o.t.Errorf("%s: %s: beside the error %d there are %s", o.name, what, err, tellAll(l))
	}
}

func (o *one) refusedTick(want api.Errno) {
	o.t.Helper()
	l, err := o.Tick()
	o.refused("Tick", want, l, err)
}

func (o *one) refusedStep(m api.Msg, want api.Errno) {
	o.t.Helper()
	l, err := o.Step(m)
	o.refused("Step of "+tell(m), want, l, err)
}

func (o *one) refusedPropose(e api.Entry, want api.Errno) {
	o.t.Helper()
	l, err := o.Propose(e)
	o.refused("Propose", want, l, err)
}

// quiet are ticks that answer nothing.
func (o *one) quiet(ticks int) {
	o.t.Helper()
	for range ticks {
		o.tick()
	}
}

func patience(self int) int { return 4 + 2*self }

// stand brings one that has waited 0 ticks to stand with this ballot, from a slot on.
func (o *one) stand(round, slot int64) api.Ballot {
	o.t.Helper()
	b := ballot(round, o.c.Self)
	o.quiet(patience(o.c.Self) - 1)
	o.tick(o.all(prepare(b, slot))...)
	o.wantRole(api.RoleStand)
	return b
}

// lead brings one that has waited 0 ticks, and takes over nothing, to lead with this round.
func (o *one) lead(round int64) api.Ballot {
	o.t.Helper()
	slot := o.Upto()
	b := o.stand(round, slot)
	for i, left := 0, o.c.N/2; left > 0; i++ {
		if i == o.c.Self {
			continue
		}
		if left--; left > 0 {
			o.step(o.in(i, promise(b, slot)))
		} else {
			o.step(o.in(i, promise(b, slot)), o.all(beat(b, slot))...)
		}
	}
	o.wantRole(api.RoleLead)
	return b
}

// wantWait: it has waited so many ticks (by letting it stand; its next round is this one).
func (o *one) wantWait(wait int, round int64) {
	o.t.Helper()
	o.quiet(patience(o.c.Self) - wait - 1)
	o.tick(o.all(prepare(ballot(round, o.c.Self), o.Upto()))...)
}

func (o *one) wantRole(want int) {
	o.t.Helper()
	if got := o.Role(); got != want {
		o.t.Errorf("%s: its role is %d, want %d", o.name, got, want)
	}
}

func (o *one) wantLeader(want api.Ballot) {
	o.t.Helper()
	if got, is := o.Leader(); got != want || !is {
		o.t.Errorf("%s: its leader is %v, %v, want %v", o.name, got, is, want)
	}
}

func (o *one) wantNoLeader() {
	o.t.Helper()
	if got, is := o.Leader(); got != (api.Ballot{}) || is {
		o.t.Errorf("%s: its leader is %v, %v, want none", o.name, got, is)
	}
}

func (o *one) wantUpto(want int64) {
	o.t.Helper()
	if got := o.Upto(); got != want {
		o.t.Errorf("%s: Upto is %d, want %d", o.name, got, want)
	}
}

func (o *one) wantPromised(want api.Ballot) {
	o.t.Helper()
	if got := o.s.Promised(); got != want {
		o.t.Errorf("%s: promised is %v, want %v", o.name, got, want)
	}
}

// wantAccepted: the store has just this accepted for a slot.
func (o *one) wantAccepted(want api.Slotted) {
	o.t.Helper()
	if got, is := o.s.Accepted(want.Slot); !is || !sameSlotted(got, want) {
		o.t.Errorf("%s: accepted is %v, %v, want %v", o.name, got, is, want)
	}
}

func (o *one) wantChosen(slot int64, want api.Entry) {
	o.t.Helper()
	if got, is := o.Chosen(slot); !is || !record.SameEntry(got, want) {
		o.t.Errorf("%s: chosen for %d is %v, %v, want %v", o.name, slot, got, is, want)
	}
}

func (o *one) wantNotChosen(slot int64) {
	o.t.Helper()
	if got, is := o.Chosen(slot); is {
		o.t.Errorf("%s: chosen for %d is %v, want nothing", o.name, slot, got)
	}
}

// wantNext: Next tells just this.
func (o *one) wantNext(slot int64, e api.Entry) {
	o.t.Helper()
	if at, got, is := o.Next(); at != slot || !is || !record.SameEntry(got, e) {
		o.t.Errorf("%s: Next: %d, %v, %v, want %d, %v", o.name, at, got, is, slot, e)
	}
}

func (o *one) wantNoNext() {
	o.t.Helper()
	if slot, e, is := o.Next(); slot != 0 || is || !record.SameEntry(e, api.Entry{}) {
		o.t.Errorf("%s: Next: %d, %v, %v, want nothing", o.name, slot, e, is)
	}
}

func (o *one) wantRestore(slot int64, data string) {
	o.t.Helper()
	if at, got, is := o.Restore(); at != slot || string(got) != data || !is {
		o.t.Errorf("%s: Restore: %d, %d bytes, %v, want %d, %d bytes", o.name, at, len(got), is, slot, len(data))
	}
}

func (o *one) wantNoRestore() {
	o.t.Helper()
	if slot, data, is := o.Restore(); slot != 0 || data != nil || is {
		o.t.Errorf("%s: Restore: %d, %d bytes, %v, want nothing", o.name, slot, len(data), is)
	}
}

// learn lets it tell all that it has.
func (o *one) learn() {
	o.Restore()
	for {
		if _, _, is := o.Next(); !is {
			return
		}
	}
}

// checkpoint lets it tell all, and makes a checkpoint at a slot.
func (o *one) checkpoint(slot int64, data string) {
	o.t.Helper()
	o.learn()
	wantErr(o.t, o.name+": Checkpoint", o.Checkpoint(slot, []byte(data)), api.OK)
}

// breakStore makes the store broken, by a disk that crashes and comes up again.
func (o *one) breakStore() {
	o.t.Helper()
	wantErr(o.t, "Crash", o.d.Crash(0), api.OK)
	if _, err := o.s.Prepare(ballot(latest, 4), 0); err == api.OK || !o.s.Broken() {
		o.t.Fatal("the store is not broken: error", err)
	}
	wantErr(o.t, "Restart", o.d.Restart(), api.OK)
}

func sameSlotted(x, y api.Slotted) bool {
	return x.Slot == y.Slot && x.Ballot == y.Ballot && record.SameEntry(x.Entry, y.Entry)
}

// files sees a disk by a clone of it, so that one that is down is seen, too.
func files(d *disk.Disk) string {
	c := d.Clone()
	c.Restart()
	var b strings.Builder
	for name := range c.Names() {
		all, _ := c.Read(name)
		_, synced, _ := c.Size(name)
		fmt.Fprintf(&b, "%s: %q, synced %d\n", name, all, synced)
	}
	return b.String()
}

// face is what is seen of a replica from outside, without asking it to do anything.
func (o *one) face() string {
	leader, known := o.Leader()
	s := fmt.Sprintf("role %d, leader %v %v, told %d, first %d, upto %d, broken %v", o.Role(), leader, known, o.Told(), o.First(), o.Upto(), o.Broken())
	return s + chosenNear(o.First(), o.Upto(), o.Chosen)
}

// chosenNear is what is chosen around Upto.
func chosenNear(first, upto int64, chosen func(int64) (api.Entry, bool)) string {
	s := ""
	for slot := max(first, upto-20); slot < upto+12; slot++ {
		if e, is := chosen(slot); is {
			s += fmt.Sprintf("; %d: kind %d, request %d", slot, e.Kind, e.Request)
		}
	}
	return s
}
