package replica_test

import (
	"bytes"
	"fmt"
	"slices"
	"strconv"
	"testing"

	"orchard/api"
	"orchard/disk"
	"orchard/record"
	"orchard/replica"
	"orchard/store"
)

// seat is a replica of a group, that crashes and comes up again from its disk.
type seat struct {
	d *disk.Disk
	r *replica.Replica // nil, while it is down
}

// house is a group, what is on its way among its replicas, and all that was ever told by them. Entries are known by their Request; EnNone is 0.
type house struct {
	t     *testing.T
	seats []*seat
	net   []*api.Msg
	told  []int64 // by slots
	put   int64
	pad   int // bytes that a checkpoint has beside what it needs
	sum   tale
	torn  string // what the disk was that crashed last
}

// tale counts what has come about: so that it is seen whether a run was worth it.
type tale struct{ told, crashes, restores, leads int }

func newHouse(t *testing.T, n int) *house {
	t.Helper()
	h := &house{t: t}
	for range n {
		h.seats = append(h.seats, &seat{d: newDisk(t)})
	}
	for i := range n {
		h.open(i)
	}
	return h
}

// open brings one up from its disk.
func (h *house) open(i int) {
	h.t.Helper()
	at := h.seats[i]
	if at.d.Down() {
		at.d.Restart()
	}
	at.d.SetFuse(0, 0)
	s, err := store.Open(at.d)
	if err != api.OK {
		h.t.Fatalf("replica %d: store.Open: error %d", i, err)
	}
	at.r, err = replica.New(api.Conf{Group: group, Self: i, N: len(h.seats)}, s)
	wantErr(h.t, "New", err, api.OK)
	h.learn(i)
}

func (h *house) crash(i, keep int) {
	h.sum.crashes++
	at := h.seats[i]
	at.r = nil
	if !at.d.Down() {
		at.d.Crash(keep)
	}
	h.torn = files(at.d)
}

// done sends what a call has answered; one whose store is broken crashes.
func (h *house) done(i int, l []api.Msg, err api.Errno) {
	h.t.Helper()
	if h.seats[i].r.Broken() {
		if err == api.OK || l != nil {
			h.t.Fatalf("replica %d breaks, and answers %s", i, tellAll(l))
		}
		h.crash(i, 0)
		return
	}
	for k := range l {
		if record.CheckMsg(l[k]) != api.OK {
			h.t.Fatalf("replica %d answers a message that may not be: %s", i, tell(l[k]))
		}
		h.net = append(h.net, &l[k])
	}
}

func (h *house) tick(i int) {
	h.t.Helper()
	if r := h.seats[i].r; r != nil {
		role := r.Role()
		l, err := r.Tick()
		if err != api.OK && !r.Broken() {
			h.t.Fatalf("replica %d: Tick: error %d", i, err)
		}
		h.done(i, l, err)
		h.count(role, r)
	}
}

func (h *house) count(role int, r *replica.Replica) {
	if role != api.RoleLead && r.Role() == api.RoleLead {
		h.sum.leads++
	}
}

// arrive hands a message over, or lets it be lost.
func (h *house) arrive(k int, lost, again bool) {
	h.t.Helper()
	m := h.net[k]
	if !again {
		h.net = slices.Delete(h.net, k, k+1)
	}
	r := h.seats[m.To.Replica].r
	// What one forwards to itself no net brings.
	if lost || r == nil || m.To == m.From {
		return
	}
	role := r.Role()
	l, err := r.Step(record.CloneMsg(*m))
	if err != api.OK && !r.Broken() {
		h.t.Fatalf("Step of %s: error %d", tell(*m), err)
	}
	h.done(m.To.Replica, l, err)
	h.count(role, r)
}

// flow lets all arrive that is on its way among some, and what they answer; what is for others is lost.
func (h *house) flow(up []int, pick func(n int) int) {
	h.t.Helper()
	for n := 0; len(h.net) > 0; n++ {
		if n > 200_000 {
			h.t.Fatal("messages without an end")
		}
		k := pick(len(h.net))
		h.arrive(k, !slices.Contains(up, h.net[k].To.Replica), false)
	}
}

func first(int) int { return 0 }

// propose asks one for the next entry: its number, and whether it was taken.
func (h *house) propose(i int) (int64, bool) {
	h.t.Helper()
	h.put++
	r := h.seats[i].r
	l, err := r.Propose(named(h.put))
	h.done(i, l, err)
	return h.put, err == api.OK
}

// data is a checkpoint of what was told for the slots below one.
func (h *house) data(slot int64) []byte {
	var b []byte
	for _, n := range h.told[:slot] {
		b = append(strconv.AppendInt(b, n, 10), ' ')
	}
	return b
}

// learn: what one tells, by Restore and by Next, is what all others tell (P10.6, P10.7).
func (h *house) learn(i int) {
	h.t.Helper()
	r := h.seats[i].r
	for {
		before := r.Told()
		if slot, b, is := r.Restore(); is {
			h.sum.restores++
			if slot <= before || slot > int64(len(h.told)) || r.Told() != slot {
				h.t.Fatalf("replica %d restores %d behind %d, of %d that were told", i, slot, before, len(h.told))
			}
			if want := h.data(slot); !bytes.HasPrefix(b, want) || len(bytes.Trim(b[len(want):], "+")) > 0 {
				h.t.Fatalf("replica %d restores %q at %d, want %q", i, b, slot, want)
			}
		}
		slot, e, is := r.Next()
		if !is {
			return
		}
		h.sum.told++
		if slot != max(before, r.First()) && slot != before || r.Told() != slot+1 {
			h.t.Fatalf("replica %d tells %d behind %d", i, slot, before)
		}
		h.hear(i, slot, e)
	}
}

func (h *house) hear(i int, slot int64, e api.Entry) {
	h.t.Helper()
	if want := named(e.Request); e.Request > h.put || !record.SameEntry(e, want) && !record.SameEntry(e, api.Entry{}) {
		h.t.Fatalf("replica %d tells %v for slot %d, which nobody proposed", i, e, slot)
	}
	if slot > int64(len(h.told)) {
		h.t.Fatalf("replica %d tells slot %d, and nobody has told %d", i, slot, len(h.told))
	}
	if slot == int64(len(h.told)) {
		h.told = append(h.told, e.Request)
	}
	if h.told[slot] != e.Request {
		h.t.Fatalf("replica %d tells %d for slot %d, and %d was told", i, e.Request, slot, h.told[slot])
	}
}

// checkpoint makes one of all that a replica has told.
func (h *house) checkpoint(i int) {
	h.t.Helper()
	r := h.seats[i].r
	b := append(h.data(r.Told()), bytes.Repeat([]byte("+"), h.pad)...)
	h.done(i, nil, r.Checkpoint(r.Told(), b))
}

// round lets each tick, and all arrive behind each tick.
func (h *house) round(up []int, pick func(n int) int) {
	h.t.Helper()
	for _, i := range up {
		h.tick(i)
		h.flow(up, pick)
	}
}

// leader is who leads, of some; if several do, the one with the greatest ballot; -1, if none does.
func (h *house) leader(up []int) int {
	at, most := -1, api.Ballot{}
	for _, i := range up {
		r := h.seats[i].r
		if b, _ := r.Leader(); r.Role() == api.RoleLead && below(most, b) {
			at, most = i, b
		}
	}
	return at
}

// isTold tells whether all of some have told an entry.
func (h *house) isTold(n int64, up []int) bool {
	slot := int64(slices.Index(h.told, n))
	for _, i := range up {
		if slot < 0 || h.seats[i].r.Told() <= slot {
			return false
		}
	}
	return true
}

// wantLeader (P10.8): within 60 rounds one leads, and what is proposed to it is told by all within 4 more.
func (h *house) wantLeader(what string, up []int, pick func(n int) int) {
	h.t.Helper()
	for range 60 {
		h.round(up, pick)
	}
	at := h.leader(up)
	if at < 0 {
		h.t.Fatalf("%s: behind 60 rounds of %v nobody leads", what, up)
	}
	n, ok := h.propose(at)
	if !ok {
		h.t.Fatalf("%s: the leader %d takes no entry", what, at)
	}
	for range 4 {
		h.round(up, pick)
	}
	for _, i := range up {
		h.learn(i)
	}
	if !h.isTold(n, up) {
		h.t.Fatalf("%s: behind 4 rounds of %v an entry that %d was given is not told by all", what, up, at)
	}
}

// isNear tells whether P10.8 speaks of these: that their Uptos are near to one another, and their disks small.
func (h *house) isNear(up []int) bool {
	var uptos []int64
	for _, i := range up {
		uptos = append(uptos, h.seats[i].r.Upto())
		files := 0
		for range h.seats[i].d.Names() {
			files++
		}
		if files > 64 || h.seats[i].d.Used() > 1<<18 {
			return false
		}
	}
	return slices.Max(uptos)-slices.Min(uptos) <= 64
}

func (h *house) String() string {
	s := fmt.Sprint(len(h.seats), " replicas")
	for i, at := range h.seats {
		if at.r != nil {
			s += fmt.Sprintf("; %d: role %d, first %d, upto %d", i, at.r.Role(), at.r.First(), at.r.Upto())
		}
	}
	return s
}
