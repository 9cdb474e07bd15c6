package net_test

import (
	"fmt"
	"reflect"
	"slices"
	"strings"
	"testing"

	"orchard/api"
	"orchard/net"
	"orchard/record"
)

// source is a sequence that is the same in each run.
type source uint64

func (s *source) next() uint64 {
	*s = *s*6364136223846793005 + 1442695040888963407
	return uint64(*s >> 33)
}

func (s *source) below(n int) int { return int(s.next() % uint64(n)) }

func wantErr(t *testing.T, what string, got, want api.Errno) {
	t.Helper()
	if got != want {
		t.Errorf("%s: error %d, want %d", what, got, want)
	}
}

// wantZero: with an error every other result is the zero value.
func wantZero(t *testing.T, what string, v any) {
	t.Helper()
	if !reflect.ValueOf(v).IsZero() {
		t.Errorf("%s: with an error it answers %+v", what, v)
	}
}

func addr(group, replica int) api.Addr { return api.Addr{Group: group, Replica: replica} }

// beat is a small message, told from others by its slot.
func beat(slot int) api.Msg {
	return api.Msg{Kind: api.MsBeat, From: addr(1, 0), To: addr(1, 1), Ballot: api.Ballot{Round: 1}, Slot: int64(slot)}
}

func beats(slots ...int) []api.Msg {
	var l []api.Msg
	for _, slot := range slots {
		l = append(l, beat(slot))
	}
	return l
}

// between is a beat from one replica to another.
func between(from, to api.Addr) api.Msg {
	m := beat(9)
	m.From, m.To = from, to
	return m
}

// many are beats with the slots 1 to n.
func many(n int) []api.Msg {
	l := make([]api.Msg, n)
	for i := range l {
		l[i] = beat(i + 1)
	}
	return l
}

// refused are messages that record.Marshal refuses.
func refused() []api.Msg {
	long := api.Op{Kind: api.OpMake, Name: strings.Repeat("x", api.MaxText), Value: strings.Repeat("y", api.MaxText)}
	tooLong := api.Msg{Kind: api.MsPush, Ops: slices.Repeat([]api.Op{long}, api.MaxList)}
	from, to, slot, other := beat(1), beat(2), beat(3), beat(4)
	from.From.Group = api.MaxGroups
	to.To.Replica = -1
	slot.Slot = -1
	other.Clock = 1
	return []api.Msg{{}, from, to, slot, other, {Kind: api.MsState + 1}, {Kind: api.MsChosen}, tooLong}
}

func sampleOp() api.Op {
	return api.Op{Stamp: api.Stamp{Time: 70, Site: 3}, Kind: api.OpMove, Node: 1 << 20, Parent: 16, Name: "na\x00me", Key: "k", Value: "\xff"}
}

// sampleMsgs are a message of each Kind, and of all Kinds of entries among them.
func sampleMsgs() []api.Msg {
	ballot := api.Ballot{Round: 12, Replica: 4}
	vector := api.Vector{1, 0, 200, 3, 4, 5, 1 << 30, 7}
	epoch := api.Epoch{Number: 9, States: [api.MaxSites]int{1, 2, 3}, Seals: api.Vector{0, 0, 500}, Sponsor: [api.MaxSites]int{-1, -1, 0}}
	part := api.Part{Snap: 6, Index: 2, Many: 5, Data: []byte{0, 128, 255}}
	ops := []api.Op{sampleOp(), {Kind: api.OpAttr}}
	list := []api.Slotted{
		{Slot: 3, Ballot: ballot},
		{Slot: 4, Entry: api.Entry{Kind: api.EnLocal, Session: 8, Request: 100, Op: sampleOp()}},
		{Slot: 5, Entry: api.Entry{Kind: api.EnRemote, Origin: 2, Seq: 77, Ops: slices.Clone(ops)}},
		{Slot: 6, Entry: api.Entry{Kind: api.EnEpoch, Epoch: epoch}},
		{Slot: 7, Entry: api.Entry{Kind: api.EnKnown, Seq: 4, From: 5, Vector: vector, Clock: 90}},
		{Slot: 8, Entry: api.Entry{Kind: api.EnPart, Part: api.Part{Many: 1, Data: []byte("part")}}},
		{Slot: 9, Entry: api.Entry{Kind: api.EnJoin, Site: 6, Sponsor: 1}},
		{Slot: 10, Entry: api.Entry{Kind: api.EnLeave, Site: 3}},
		{Slot: 11, Entry: api.Entry{Kind: api.EnSealed, Site: 2, Length: 500}},
	}
	l := []api.Msg{
		{Kind: api.MsPrepare, Ballot: ballot, Slot: 7},
		{Kind: api.MsPromise, Ballot: ballot, Slot: 7, List: list},
		{Kind: api.MsAccept, Ballot: ballot, List: list[1:2:2]},
		{Kind: api.MsAccepted, Ballot: ballot, Slot: 64},
		{Kind: api.MsRefuse, Ballot: ballot},
		{Kind: api.MsChosen, List: list[2:]},
		{Kind: api.MsBeat, Ballot: ballot, Slot: 1},
		{Kind: api.MsAsk, Slot: 8192},
		{Kind: api.MsForward, Entry: api.Entry{Kind: api.EnLeave, Site: 7}},
		{Kind: api.MsKnown, Number: 3, Vector: vector, Clock: 80},
		{Kind: api.MsPush, Number: 3, Origin: 7, Slot: 40, Ops: ops},
		{Kind: api.MsEpoch, Epoch: epoch},
		{Kind: api.MsPart, Part: part},
		{Kind: api.MsWant, Number: 2, Vector: vector},
		{Kind: api.MsState, Slot: 9, Part: part},
	}
	for i := range l {
		l[i].From, l[i].To = addr(i%api.MaxGroups, i%api.MaxReplicas), addr((i+4)%api.MaxGroups, (i+1)%api.MaxReplicas)
		l[i] = record.CloneMsg(l[i])
	}
	return l
}

func bytesOf(t *testing.T, m api.Msg) []byte {
	t.Helper()
	b, err := record.Marshal(m)
	if err != api.OK {
		t.Fatalf("Marshal of a message of Kind %d: error %d", m.Kind, err)
	}
	return b
}

func wantSent(t *testing.T, what string, n *net.Net, l []api.Msg, want int) {
	t.Helper()
	if got, err := n.Send(l...); got != want || err != api.OK {
		t.Errorf("%s: Send: %d, error %d, want %d", what, got, err, want)
	}
}

// with is a net in which these messages wait.
func with(t *testing.T, l ...api.Msg) *net.Net {
	t.Helper()
	n := net.New()
	if n == nil {
		t.Fatal("New answers nil")
	}
	wantSent(t, "a new net", n, l, len(l))
	return n
}

// holding is a net in which so many messages wait: beats, with their numbers as slots.
func holding(t *testing.T, count int) *net.Net {
	t.Helper()
	return with(t, many(count)...)
}

func wantTake(t *testing.T, what string, n *net.Net, number int64, want api.Msg) {
	t.Helper()
	got, err := n.Take(number)
	if err != api.OK || !record.SameMsg(got, want) {
		t.Errorf("%s: Take(%d): error %d, of Kind %d and slot %d, want Kind %d and slot %d", what, number, err, got.Kind, got.Slot, want.Kind, want.Slot)
	}
}

func wantNoTake(t *testing.T, what string, n *net.Net, number int64, want api.Errno) {
	t.Helper()
	m, err := n.Take(number)
	wantErr(t, what+": Take", err, want)
	wantZero(t, what+": Take", m)
}

func wantDouble(t *testing.T, what string, n *net.Net, number, want int64) {
	t.Helper()
	if got, err := n.Double(number); got != want || err != api.OK {
		t.Errorf("%s: Double(%d): %d, error %d, want %d", what, number, got, err, want)
	}
}

func wantNoDouble(t *testing.T, what string, n *net.Net, number int64, want api.Errno) {
	t.Helper()
	got, err := n.Double(number)
	wantErr(t, what+": Double", err, want)
	wantZero(t, what+": Double", got)
}

// plain is a message that waits, as it is seen from outside.
type plain struct {
	number   int64
	from, to api.Addr
	data     string
}

// String keeps bytes that are no text readable.
func (p plain) String() string { return fmt.Sprintf("%d %v %v %q", p.number, p.from, p.to, p.data) }

// face is a net as it is seen from outside.
type face struct {
	waiting []plain
	next    int64 // the number that a message would get
}

func (x face) same(y face) bool { return x.next == y.next && slices.Equal(x.waiting, y.waiting) }

// unlike tells where a net is first another one than is wanted.
func (x face) unlike(want face) string {
	for i, p := range x.waiting {
		if i < len(want.waiting) && p != want.waiting[i] {
			return fmt.Sprintf("at the place %d waits %v, want %v", i, p, want.waiting[i])
		}
	}
	return fmt.Sprintf("there wait %d, want %d; the next number is %d, want %d", len(x.waiting), len(want.waiting), x.next, want.next)
}

func waitingIn(n *net.Net) []plain {
	var l []plain
	for s := range n.All() {
		l = append(l, plain{s.Number, s.From, s.To, string(s.Data)})
	}
	return l
}

// look sees a net; the next number is told by sending one more message to an emptied clone of it.
func look(t *testing.T, n *net.Net) face {
	t.Helper()
	x := face{waiting: waitingIn(n)}
	if n.Len() != len(x.waiting) {
		t.Errorf("Len: %d, but All tells %d", n.Len(), len(x.waiting))
	}
	first, ok := n.First()
	if ok != (len(x.waiting) > 0) || ok && first != x.waiting[0].number || !ok && first != 0 {
		t.Errorf("First: %d, %t, but %d wait", first, ok, len(x.waiting))
	}
	c := n.Clone()
	for _, p := range x.waiting {
		wantErr(t, "Drop", c.Drop(p.number), api.OK)
	}
	wantSent(t, "an emptied clone", c, beats(1), 1)
	x.next, _ = c.First()
	return x
}

func wantFace(t *testing.T, what string, n *net.Net, want face) {
	t.Helper()
	if got := look(t, n); !got.same(want) {
		t.Errorf("%s: %s", what, got.unlike(want))
	}
}

func wantNumbers(t *testing.T, what string, n *net.Net, want ...int64) {
	t.Helper()
	var got []int64
	for _, p := range look(t, n).waiting {
		got = append(got, p.number)
	}
	if !slices.Equal(got, want) {
		t.Errorf("%s: the numbers %d wait, want %d", what, got[:min(len(got), 20)], want)
	}
}

// wantSame is that a call changes nothing.
func wantSame(t *testing.T, what string, n *net.Net, call func()) {
	t.Helper()
	before := look(t, n)
	call()
	wantFace(t, what, n, before)
}
