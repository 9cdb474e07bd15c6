package proposer_test

import (
	"fmt"
	"math"
	"reflect"
	"slices"
	"testing"

	"orchard/api"
	"orchard/proposer"
)

const (
	latest = 1 << 40 // a round, a slot
	most   = 5       // replicas
	gap    = 4096    // how far above the first slot an accepted one may be
)

// source is a sequence that is the same in each run.
type source uint64

func (s *source) next() uint64 {
	*s = *s*6364136223846793005 + 1442695040888963407
	return uint64(*s >> 33)
}

func (s *source) below(n int) int { return int(s.next() % uint64(n)) }

func shuffled[T any](s *source, l []T) []T {
	l = slices.Clone(l)
	for i := range l {
		j := i + s.below(len(l)-i)
		l[i], l[j] = l[j], l[i]
	}
	return l
}

// orders are all orders in which the numbers below n may stand.
func orders(n int) [][]int {
	if n == 0 {
		return [][]int{{}}
	}
	var all [][]int
	for _, l := range orders(n - 1) {
		for at := range n {
			all = append(all, slices.Insert(slices.Clone(l), at, n-1))
		}
	}
	return all
}

// half is how many of n are more than half, told by a table.
func half(n int) int { return []int{0, 1, 2, 2, 3, 3}[n] }

func ballot(round int64, replica int) api.Ballot { return api.Ballot{Round: round, Replica: replica} }

// below is the order of ballots, told anew.
func below(a, b api.Ballot) bool {
	return a.Round < b.Round || a.Round == b.Round && a.Replica < b.Replica
}

func sampleOps() []api.Op {
	return []api.Op{
		{Stamp: api.Stamp{Time: 70, Site: 3}, Kind: api.OpMove, Node: 1 << 20, Parent: 16, Name: "na\x00me", Key: "k", Value: "\xff"},
		{Kind: api.OpAttr},
		{Kind: api.OpMake, Node: 1 << 50},
	}
}

// samples are entries of each Kind.
func samples() []api.Entry {
	vector := api.Vector{1, 0, 200, 3, 4, 5, 1 << 30, 7}
	epoch := api.Epoch{Number: 9, States: [api.MaxSites]int{1, 2, 3}, Seals: api.Vector{0, 0, 500}, Sponsor: [api.MaxSites]int{-1, -1, 0}}
	return []api.Entry{
		{},
		{Kind: api.EnLocal, Session: 8, Request: 100, Op: sampleOps()[0]},
		{Kind: api.EnRemote, Origin: 2, Seq: 77, Ops: sampleOps()},
		{Kind: api.EnEpoch, Epoch: epoch},
		{Kind: api.EnKnown, Seq: 3, From: 5, Vector: vector, Clock: 90},
		{Kind: api.EnPart, Part: api.Part{Snap: 6, Index: 2, Many: 5, Data: []byte{0, 128, 255}}},
		{Kind: api.EnJoin, Site: 6, Sponsor: 1},
		{Kind: api.EnLeave, Site: 3},
		{Kind: api.EnSealed, Site: 2, Length: 500},
	}
}

// sample is one of the samples, in memory of its own.
func sample(i int) api.Entry {
	l := samples()
	return l[i%len(l)]
}

// refused are entries that may not be.
func refused() []api.Entry {
	remote := api.Entry{Kind: api.EnRemote, Ops: sampleOps()}
	remote.Ops[1].Kind = 4
	return []api.Entry{
		{Kind: 9}, {Kind: -1}, {Kind: math.MaxInt}, {Site: 1}, {Kind: api.EnLeave, Site: 8}, {Kind: api.EnRemote}, remote,
		{Kind: api.EnLocal, Session: 8, Op: sampleOps()[0]}, {Kind: api.EnPart}, {Kind: api.EnSealed, Length: latest + 1},
	}
}

// named is a small entry, told from others by its number.
func named(n int64) api.Entry { return api.Entry{Kind: api.EnSealed, Site: 1, Length: n} }

func slotted(slot int64, b api.Ballot, e api.Entry) api.Slotted {
	return api.Slotted{Slot: slot, Ballot: b, Entry: e}
}

// plain is an entry in memory of its own, with no list for an empty one.
func plain(e api.Entry) api.Entry {
	e.Ops = append([]api.Op(nil), e.Ops...)
	e.Part.Data = append([]byte(nil), e.Part.Data...)
	return e
}

func sameEntry(x, y api.Entry) bool { return reflect.DeepEqual(plain(x), plain(y)) }

func sameSlotted(x, y api.Slotted) bool {
	return x.Slot == y.Slot && x.Ballot == y.Ballot && sameEntry(x.Entry, y.Entry)
}

func wantErr(t *testing.T, what string, got, want api.Errno) {
	t.Helper()
	if got != want {
		t.Errorf("%s: error %d, want %d", what, got, want)
	}
}

func wantList(t *testing.T, what string, got, want []api.Slotted) {
	t.Helper()
	if !slices.EqualFunc(got, want, sameSlotted) {
		t.Errorf("%s: %+v, want %+v", what, got, want)
	}
}

// slot is a slot that has an entry, as it is seen from outside.
type slot struct {
	number  int64
	entry   api.Entry
	chosen  bool
	missing []int
}

func (x slot) same(y slot) bool {
	return x.number == y.number && sameEntry(x.entry, y.entry) && x.chosen == y.chosen && slices.Equal(x.missing, y.missing)
}

// face is a proposer as it is seen from outside.
type face struct {
	ballot api.Ballot
	ready  bool
	next   int64
	slots  []slot
}

func (x face) same(y face) bool {
	return x.ballot == y.ballot && x.ready == y.ready && x.next == y.next && slices.EqualFunc(x.slots, y.slots, slot.same)
}

func (x face) String() string {
	s := fmt.Sprintf("ballot %v, ready %v, next %d, slots:", x.ballot, x.ready, x.next)
	for _, one := range x.slots {
		s += fmt.Sprintf(" %d (kind %d, site %d, length %d, chosen %v, missing %v)",
			one.number, one.entry.Kind, one.entry.Site, one.entry.Length, one.chosen, one.missing)
	}
	return s
}

// look sees a proposer by all calls that tell of it; from is the least slot at which it looks.
func look(t *testing.T, p *proposer.Proposer, from int64) face {
	t.Helper()
	x := face{p.Ballot(), p.Ready(), p.Next(), nil}
	waiting := p.Waiting()
	for number := from; number < x.next; number++ {
		e, chosen := p.Chosen(number)
		missing := p.Missing(number)
		if !chosen && !reflect.ValueOf(e).IsZero() {
			t.Errorf("Chosen of %d: %+v beside false", number, e)
		}
		waits := len(waiting) > 0 && waiting[0].Slot == number
		if waits {
			if waiting[0].Ballot != x.ballot {
				t.Errorf("Waiting tells %d with %v, want %v", number, waiting[0].Ballot, x.ballot)
			}
			e, waiting = waiting[0].Entry, waiting[1:]
		}
		if chosen && waits || !chosen && !waits && missing != nil {
			t.Errorf("%d: chosen %v, waiting %v, missing %v", number, chosen, waits, missing)
		}
		if chosen || waits {
			x.slots = append(x.slots, slot{number, e, chosen, missing})
		}
	}
	if len(waiting) > 0 {
		t.Errorf("Waiting tells more, or not by slots: %+v", waiting)
	}
	for _, number := range []int64{math.MinInt64, -1, from - 1, x.next, x.next + 1, math.MaxInt64} {
		if e, chosen := p.Chosen(number); chosen || !reflect.ValueOf(e).IsZero() || p.Missing(number) != nil {
			t.Errorf("%d is chosen as %+v, %v, missing %v", number, e, chosen, p.Missing(number))
		}
	}
	return x
}

func wantFace(t *testing.T, what string, p *proposer.Proposer, from int64, want face) {
	t.Helper()
	if got := look(t, p, from); !got.same(want) {
		t.Errorf("%s: the proposer is %v, want %v", what, got, want)
	}
}

// fresh are slots from from on whose entries nobody of n has accepted yet.
func fresh(n int, from int64, l ...api.Entry) []slot {
	var out []slot
	for i, e := range l {
		one := slot{number: from + int64(i), entry: e}
		for replica := range n {
			one.missing = append(one.missing, replica)
		}
		out = append(out, one)
	}
	return out
}

func newOne(t *testing.T, b api.Ballot, from int64, n int) *proposer.Proposer {
	t.Helper()
	p, err := proposer.New(b, from, n)
	if err != api.OK || p == nil {
		t.Fatalf("New(%v, %d, %d): %v, error %d", b, from, n, p, err)
	}
	return p
}

// ready is a proposer to whom just a majority of n has promised, the first one with l.
func ready(t *testing.T, b api.Ballot, from int64, n int, l ...api.Slotted) *proposer.Proposer {
	t.Helper()
	p := newOne(t, b, from, n)
	wantPromise(t, "the first one", p, half(n) == 1, 0, l...)
	for replica := 1; replica < half(n); replica++ {
		wantPromise(t, "nothing", p, replica == half(n)-1, replica)
	}
	return p
}

// leading is a proposer of a ready majority of three whose slots 10 to 10 + many - 1 have been put.
func leading(t *testing.T, many int) *proposer.Proposer {
	t.Helper()
	p := ready(t, ballot(3, 1), 10, 3)
	for i := range many {
		wantPut(t, "one of several", p, 10+int64(i), sample(i))
	}
	return p
}

func wantPromise(t *testing.T, what string, p *proposer.Proposer, want bool, replica int, l ...api.Slotted) {
	t.Helper()
	if got, err := p.Promise(replica, l...); got != want || err != api.OK || p.Ready() != want {
		t.Errorf("Promise(%d), %s: %v, error %d, ready %v, want %v", replica, what, got, err, p.Ready(), want)
	}
}

// wantNoPromise: it answers an error alone, and changes nothing that is to be seen.
func wantNoPromise(t *testing.T, what string, p *proposer.Proposer, want api.Errno, replica int, l ...api.Slotted) {
	t.Helper()
	from := max(0, p.Next()-20)
	before := look(t, p, from)
	if got, err := p.Promise(replica, l...); got || err != want {
		t.Errorf("Promise(%d), %s: %v, error %d, want %d", replica, what, got, err, want)
	}
	wantFace(t, "Promise, "+what, p, from, before)
}

func wantPut(t *testing.T, what string, p *proposer.Proposer, number int64, e api.Entry) {
	t.Helper()
	got, err := p.Put(e)
	wantErr(t, "Put, "+what, err, api.OK)
	if want := slotted(number, p.Ballot(), e); !sameSlotted(got, want) || p.Next() != number+1 {
		t.Errorf("Put, %s: %+v, next %d, want %+v", what, got, p.Next(), want)
	}
}

func wantNoPut(t *testing.T, what string, p *proposer.Proposer, want api.Errno, e api.Entry) {
	t.Helper()
	from := max(0, p.Next()-20)
	before := look(t, p, from)
	if got, err := p.Put(e); err != want || !reflect.ValueOf(got).IsZero() {
		t.Errorf("Put, %s: %+v, error %d, want %d", what, got, err, want)
	}
	wantFace(t, "Put, "+what, p, from, before)
}

func wantAccepted(t *testing.T, what string, p *proposer.Proposer, want bool, replica int, number int64) {
	t.Helper()
	if got, err := p.Accepted(replica, number); got != want || err != api.OK {
		t.Errorf("Accepted(%d, %d), %s: %v, error %d, want %v", replica, number, what, got, err, want)
	}
}

func wantNotAccepted(t *testing.T, what string, p *proposer.Proposer, want api.Errno, replica int, number int64) {
	t.Helper()
	from := max(0, p.Next()-20)
	before := look(t, p, from)
	if got, err := p.Accepted(replica, number); got || err != want {
		t.Errorf("Accepted(%d, %d), %s: %v, error %d, want %d", replica, number, what, got, err, want)
	}
	wantFace(t, "Accepted, "+what, p, from, before)
}

func wantForget(t *testing.T, what string, p *proposer.Proposer, want api.Errno, before int64) {
	t.Helper()
	from := max(0, p.Next()-20)
	was := look(t, p, from)
	wantErr(t, fmt.Sprintf("Forget(%d), %s", before, what), p.Forget(before), want)
	if want == api.OK {
		was.slots = slices.DeleteFunc(was.slots, func(x slot) bool { return x.number < before })
	}
	wantFace(t, "Forget, "+what, p, from, was)
}

// choose makes a slot chosen, by the first ones of three.
func choose(t *testing.T, p *proposer.Proposer, l ...int64) {
	t.Helper()
	for _, number := range l {
		wantAccepted(t, "the first one", p, false, 0, number)
		wantAccepted(t, "the second one", p, true, 1, number)
	}
}
