package acceptor_test

import (
	"cmp"
	"fmt"
	"math"
	"reflect"
	"slices"
	"testing"

	"orchard/acceptor"
	"orchard/api"
)

const (
	latest   = 1 << 40 // a round, a slot
	replicas = 5
)

// source is a sequence that is the same in each run.
type source uint64

func (s *source) next() uint64 {
	*s = *s*6364136223846793005 + 1442695040888963407
	return uint64(*s >> 33)
}

func (s *source) below(n int) int { return int(s.next() % uint64(n)) }

func shuffled[T any](s *source, l []T) []T {
	l = slices.Clone(l)
	for i := range l {
		j := i + s.below(len(l)-i)
		l[i], l[j] = l[j], l[i]
	}
	return l
}

func ballot(round int64, replica int) api.Ballot { return api.Ballot{Round: round, Replica: replica} }

// rising are ballots that may be, each above the one ahead of it.
func rising() []api.Ballot {
	return []api.Ballot{
		ballot(1, 0), ballot(1, 1), ballot(1, 4), ballot(2, 0), ballot(2, 3), ballot(3, 0), ballot(7, 4),
		ballot(1<<32, 1), ballot(1<<32+1, 0), ballot(latest-1, 4), ballot(latest, 0), ballot(latest, 3), ballot(latest, 4),
	}
}

// noBallots are ballots that may not be.
func noBallots() []api.Ballot {
	return []api.Ballot{
		{}, ballot(0, 1), ballot(0, 4), ballot(-1, 0), ballot(latest+1, 0), ballot(latest+1, 4), ballot(1, -1), ballot(1, replicas),
		ballot(latest, -1), ballot(latest, replicas), ballot(math.MinInt64, 0), ballot(math.MaxInt64, 4),
		ballot(7, math.MinInt), ballot(7, math.MaxInt), ballot(0, -1), ballot(latest+1, replicas),
	}
}

// noSlots are numbers that may not be slots.
func noSlots() []int64 { return []int64{-1, latest + 1, math.MinInt64, math.MaxInt64, -latest} }

func sampleOps() []api.Op {
	return []api.Op{
		{Stamp: api.Stamp{Time: 70, Site: 3}, Kind: api.OpMove, Node: 1 << 20, Parent: 16, Name: "na\x00me", Key: "k", Value: "\xff"},
		{Kind: api.OpAttr},
		{Kind: -5, Node: math.MinInt64},
	}
}

// samples are entries of each Kind, and such as are none: an acceptor looks at none of them.
func samples() []api.Entry {
	vector := api.Vector{1, 0, 200, 3, 4, 5, 1 << 30, 7}
	epoch := api.Epoch{Number: 9, States: [api.MaxSites]int{1, 2, 3}, Seals: api.Vector{0, 0, 500}, Sponsor: [api.MaxSites]int{-1, -1, 0}}
	part := api.Part{Snap: 6, Index: 2, Many: 5, Data: []byte{0, 128, 255}}
	return []api.Entry{
		{},
		{Kind: api.EnLocal, Session: 8, Request: 100, Op: sampleOps()[0]},
		{Kind: api.EnRemote, Origin: 2, Seq: 77, Ops: sampleOps()},
		{Kind: api.EnEpoch, Epoch: epoch},
		{Kind: api.EnKnown, From: 5, Vector: vector, Clock: 90},
		{Kind: api.EnPart, Part: part},
		{Kind: api.EnJoin, Site: 6, Sponsor: 1},
		{Kind: api.EnLeave, Site: 3},
		{Kind: api.EnSealed, Site: 2, Length: 500},
		{
			Kind: -77, Session: -1, Request: math.MinInt64, Op: sampleOps()[2], Origin: 99, Seq: -3, Ops: sampleOps(), Epoch: epoch, From: -8,
			Vector: vector, Clock: math.MaxInt64, Part: api.Part{Snap: -1, Index: -2, Many: -3, Data: []byte("part")}, Site: 50, Sponsor: 60, Length: -70,
		},
		{Kind: math.MaxInt, Ops: []api.Op{}, Part: api.Part{Data: []byte{}}},
	}
}

// sample is one of the samples, in memory of its own.
func sample(i int) api.Entry {
	l := samples()
	return l[i%len(l)]
}

// named is a small entry, told from others by its number.
func named(n int64) api.Entry { return api.Entry{Kind: api.EnLocal, Session: 8, Request: n} }

func slotted(slot int64, b api.Ballot, e api.Entry) api.Slotted {
	return api.Slotted{Slot: slot, Ballot: b, Entry: e}
}

// plain is what was accepted, in memory of its own, with no list for an empty one.
func plain(s api.Slotted) api.Slotted {
	s.Entry.Ops = append([]api.Op(nil), s.Entry.Ops...)
	s.Entry.Part.Data = append([]byte(nil), s.Entry.Part.Data...)
	return s
}

func sameSlotted(x, y api.Slotted) bool { return reflect.DeepEqual(plain(x), plain(y)) }

func sameList(x, y []api.Slotted) bool { return slices.EqualFunc(x, y, sameSlotted) }

func bySlots(l []api.Slotted) []api.Slotted {
	l = slices.Clone(l)
	slices.SortStableFunc(l, func(x, y api.Slotted) int { return cmp.Compare(x.Slot, y.Slot) })
	return l
}

// from are those of a list with slots from from on.
func from(l []api.Slotted, from int64) []api.Slotted {
	var out []api.Slotted
	for _, s := range l {
		if s.Slot >= from {
			out = append(out, s)
		}
	}
	return out
}

func wantErr(t *testing.T, what string, got, want api.Errno) {
	t.Helper()
	if got != want {
		t.Errorf("%s: error %d, want %d", what, got, want)
	}
}

func wantList(t *testing.T, what string, got, want []api.Slotted) {
	t.Helper()
	if !sameList(got, want) {
		t.Errorf("%s: %+v, want %+v", what, got, want)
	}
}

// face is an acceptor as it is seen from outside.
type face struct {
	promised api.Ballot
	first    int64
	accepted []api.Slotted
}

func (x face) same(y face) bool {
	return x.promised == y.promised && x.first == y.first && sameList(x.accepted, y.accepted)
}

func (x face) String() string {
	s := fmt.Sprintf("promised %v, first %d, accepted:", x.promised, x.first)
	for _, a := range x.accepted {
		s += fmt.Sprintf(" %d with %v (kind %d, request %d)", a.Slot, a.Ballot, a.Entry.Kind, a.Entry.Request)
	}
	return s
}

// look sees an acceptor by all calls that tell of it.
func look(t *testing.T, a *acceptor.Acceptor) face {
	t.Helper()
	x := face{a.Promised(), a.First(), slices.Collect(a.All(math.MinInt64))}
	if a.Len() != len(x.accepted) {
		t.Errorf("Len is %d, and All tells %d", a.Len(), len(x.accepted))
	}
	for _, s := range x.accepted {
		if at, there := a.At(s.Slot); !there || !sameSlotted(at, s) {
			t.Errorf("At of %d: %+v, %v; All tells %+v", s.Slot, at, there, s)
		}
	}
	return x
}

func wantFace(t *testing.T, what string, a *acceptor.Acceptor, want face) {
	t.Helper()
	if got := look(t, a); !got.same(want) {
		t.Errorf("%s: the acceptor is %v, want %v", what, got, want)
	}
}

func newOne(t *testing.T) *acceptor.Acceptor {
	t.Helper()
	a := acceptor.New()
	if a == nil {
		t.Fatal("New answers nil")
	}
	return a
}

// made is an acceptor of a face.
func made(t *testing.T, x face) *acceptor.Acceptor {
	t.Helper()
	a, err := acceptor.From(x.promised, x.first, x.accepted)
	if a == nil || err != api.OK {
		t.Fatalf("From of %v: %v, error %d", x, a, err)
	}
	return a
}

func wantNoFrom(t *testing.T, what string, x face, want api.Errno) {
	t.Helper()
	a, err := acceptor.From(x.promised, x.first, x.accepted)
	if a != nil || err != want {
		t.Errorf("From, %s: %v, error %d, want none and %d", what, a, err, want)
	}
}

func wantPrepare(t *testing.T, what string, a *acceptor.Acceptor, b api.Ballot, from int64, want ...api.Slotted) {
	t.Helper()
	l, err := a.Prepare(b, from)
	wantErr(t, "Prepare, "+what, err, api.OK)
	wantList(t, "Prepare, "+what, l, want)
	if a.Promised() != b {
		t.Errorf("Prepare, %s: promised is %v, want %v", what, a.Promised(), b)
	}
}

// wantNoPrepare: it answers an error alone, and changes nothing.
func wantNoPrepare(t *testing.T, what string, a *acceptor.Acceptor, b api.Ballot, from int64, want api.Errno) {
	t.Helper()
	before := look(t, a)
	l, err := a.Prepare(b, from)
	if l != nil || err != want {
		t.Errorf("Prepare(%v, %d), %s: %v, error %d, want none and %d", b, from, what, l, err, want)
	}
	wantFace(t, "Prepare, "+what, a, before)
}

func wantAccept(t *testing.T, what string, a *acceptor.Acceptor, s api.Slotted) {
	t.Helper()
	wantErr(t, "Accept, "+what, a.Accept(s.Ballot, s.Slot, s.Entry), api.OK)
	if at, there := a.At(s.Slot); !there || !sameSlotted(at, s) {
		t.Errorf("Accept, %s: At is %+v, %v, want %+v", what, at, there, s)
	}
	if a.Promised() != s.Ballot {
		t.Errorf("Accept, %s: promised is %v, want %v", what, a.Promised(), s.Ballot)
	}
}

func wantNoAccept(t *testing.T, what string, a *acceptor.Acceptor, b api.Ballot, slot int64, want api.Errno) {
	t.Helper()
	before := look(t, a)
	wantErr(t, fmt.Sprintf("Accept(%v, %d), %s", b, slot, what), a.Accept(b, slot, sample(9)), want)
	wantFace(t, "Accept, "+what, a, before)
}

// full is an acceptor with all samples, at slots that are no row.
func full() face {
	x := face{promised: ballot(9, 2), first: 3}
	for i, e := range samples() {
		x.accepted = append(x.accepted, slotted(3+int64(i*i), rising()[i%7], e))
	}
	x.accepted[len(x.accepted)-1].Slot = latest
	return x
}
