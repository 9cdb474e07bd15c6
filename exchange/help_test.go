package exchange_test

import (
	"math"
	"reflect"
	"slices"
	"strings"
	"testing"

	"orchard/api"
	"orchard/exchange"
	"orchard/record"
)

// The document's numbers, told anew.
const (
	latest = 1 << 40 // a time, a number, a count
	sites  = 8
	config = 8  // the configuration's group
	batch  = 16 // operations of a message

	siteNone    = 0
	siteMember  = 1
	siteLeaving = 2
	siteRetired = 3
)

// source is a sequence that is the same in each run.
type source uint64

func (s *source) next() uint64 {
	*s = *s*6364136223846793005 + 1442695040888963407
	return uint64(*s >> 33)
}

func (s *source) below(n int) int { return int(s.next() % uint64(n)) }

func oneOf[T any](s *source, l []T) T { return l[s.below(len(l))] }

func at(group, replica int) api.Addr { return api.Addr{Group: group, Replica: replica} }

// addrs are addresses at the edges.
func addrs() []api.Addr {
	return []api.Addr{at(0, 0), at(0, 4), at(7, 0), at(7, 4), at(config, 0), at(config, 4), at(3, 2)}
}

func noAddrs() []api.Addr {
	return []api.Addr{
		at(-1, 0), at(9, 0), at(0, -1), at(0, 5), at(-1, -1), at(9, 5), at(config, 5),
		at(math.MinInt, 0), at(math.MaxInt, 0), at(0, math.MinInt), at(0, math.MaxInt),
	}
}

// noSites are numbers that are no site's.
func noSites() []int {
	return []int{math.MinInt, -sites, -1, sites, sites + 1, 1 << 32, math.MaxInt}
}

// noCounts are numbers that are no counts.
func noCounts() []int64 {
	return []int64{math.MinInt64, math.MinInt64 + 1, -latest, -1, latest + 1, latest + 2, math.MaxInt64 - 1, math.MaxInt64}
}

// op is an operation of a site that may be: it makes its node under the root.
func op(time int64, site int) api.Op {
	return api.Op{Stamp: api.Stamp{Time: time, Site: site}, Kind: api.OpMake, Node: 16 + 8*time + int64(site), Parent: 1, Name: "a"}
}

// attr is another one, with all its texts' fields.
func attr(time int64, site int) api.Op {
	return api.Op{Stamp: api.Stamp{Time: time, Site: site}, Kind: api.OpAttr, Node: 1, Key: "k", Value: "v"}
}

// opsAt are operations of a site with these times.
func opsAt(site int, times ...int64) []api.Op {
	var l []api.Op
	for _, time := range times {
		l = append(l, op(time, site))
	}
	return l
}

// opsFrom are n operations of a site whose times begin with first, and rise by one.
func opsFrom(site int, first int64, n int) []api.Op {
	var l []api.Op
	for i := range int64(n) {
		l = append(l, op(first+i, site))
	}
	return l
}

// noOps are operations of a site, with that time, that no site would do: stamp refuses each of them.
func noOps(time int64, site int) []api.Op {
	with := func(change func(op *api.Op)) api.Op {
		x := op(time, site)
		change(&x)
		return x
	}
	return []api.Op{
		{Stamp: api.Stamp{Time: time, Site: site}},
		with(func(op *api.Op) { op.Kind = 4 }),
		with(func(op *api.Op) { op.Node++ }),
		with(func(op *api.Op) { op.Parent = 0 }),
		with(func(op *api.Op) { op.Name = "" }),
		with(func(op *api.Op) { op.Name = strings.Repeat("n", 256) }),
		with(func(op *api.Op) { op.Name = "a/b" }),
		with(func(op *api.Op) { op.Key = "k" }),
		with(func(op *api.Op) { op.Kind, op.Node = api.OpMove, 1 }),
		{Stamp: api.Stamp{Time: time, Site: site}, Kind: api.OpAttr, Node: 3, Key: "k"},
		{Stamp: api.Stamp{Time: time, Site: site}, Kind: api.OpAttr, Node: 1, Key: "k", Value: strings.Repeat("v", 256)},
	}
}

// cloneState is a state in memory of its own.
func cloneState(s api.Snap) api.Snap {
	for o := range s.Kept {
		s.Kept[o] = slices.Clone(s.Kept[o])
	}
	s.Log = slices.Clone(s.Log)
	return s
}

func sameMsgs(a, b []api.Msg) bool { return slices.EqualFunc(a, b, record.SameMsg) }

// lengths tell messages in short: of each its origin, its slot, how many operations it has.
func lengths(l []api.Msg) [][3]int64 {
	var out [][3]int64
	for _, m := range l {
		out = append(out, [3]int64{int64(m.Origin), m.Slot, int64(len(m.Ops))})
	}
	return out
}

// wantPush: what it tells, as often as it is gone through, and stopped at each place.
func wantPush(t *testing.T, what string, s api.Snap, from, to api.Addr, most int, want []api.Msg) {
	t.Helper()
	all := exchange.Push(s, from, to, most)
	if all == nil {
		t.Fatalf("%s: there is no iterator", what)
	}
	for range 2 {
		if got := slices.Collect(all); !sameMsgs(got, want) {
			t.Errorf("%s: Push from %v to %v with most %d tells (origin, slot, operations) %v, want %v", what, from, to, most, lengths(got), lengths(want))
			return
		}
	}
	for stop := range min(len(want), 4) {
		told := 0
		for m := range all {
			if !record.SameMsg(m, want[told]) {
				t.Errorf("%s: stopped at %d, told as number %d is %v", what, stop, told, lengths([]api.Msg{m}))
			}
			if told == stop {
				break
			}
			told++
		}
		if told != stop {
			t.Errorf("%s: stopped at %d, it came to %d", what, stop, told)
		}
	}
}

func wantNoPush(t *testing.T, what string, s api.Snap, from, to api.Addr, most int) {
	t.Helper()
	wantPush(t, what, s, from, to, most, nil)
}

// push is the message by which operations are sent.
func push(s api.Snap, from, to api.Addr, origin int, slot int64, ops []api.Op) api.Msg {
	return api.Msg{Kind: api.MsPush, From: from, To: to, Number: s.Epoch.Number, Origin: origin, Slot: slot, Ops: ops}
}

func wantOps(t *testing.T, what string, got, want []api.Op) {
	t.Helper()
	if !slices.Equal(got, want) {
		t.Errorf("%s: the operations are %v, want %v", what, short(got), short(want))
	}
}

// short are the first operations of a list without what makes them long.
func short(l []api.Op) []api.Op {
	l = slices.Clone(l[:min(len(l), 20)])
	for i := range l {
		l[i].Name = l[i].Name[:min(len(l[i].Name), 9)]
		l[i].Value = l[i].Value[:min(len(l[i].Value), 9)]
	}
	return l
}

func wantTake(t *testing.T, what string, s api.Snap, origin int, seq int64, ops, want []api.Op) {
	t.Helper()
	wantOps(t, what+": Take", exchange.Take(s, origin, seq, ops...), want)
	// P16.6 asks for the same.
	wantUseful(t, what, s, api.Entry{Kind: api.EnRemote, Origin: origin, Seq: seq, Ops: ops}, len(want) > 0)
}

func wantUseful(t *testing.T, what string, s api.Snap, x api.Entry, want bool) {
	t.Helper()
	if got := exchange.Useful(s, x); got != want {
		t.Errorf("%s: Useful of an entry of Kind %d is %v", what, x.Kind, got)
	}
}

func wantEntry(t *testing.T, what string, m api.Msg, want api.Entry) {
	t.Helper()
	if e, is := exchange.Entry(m); !is || !record.SameEntry(e, want) {
		t.Errorf("%s: Entry of a message of Kind %d: %v, %v, want %v", what, m.Kind, e, is, want)
	}
}

func wantNoEntry(t *testing.T, what string, m api.Msg) {
	t.Helper()
	if e, is := exchange.Entry(m); is || !reflect.ValueOf(e).IsZero() {
		t.Errorf("%s: Entry of a message of Kind %d: %v, %v, want none", what, m.Kind, e, is)
	}
}

func wantPeers(t *testing.T, what string, s api.Snap, want ...int) {
	t.Helper()
	if got := exchange.Peers(s); !slices.Equal(got, want) {
		t.Errorf("%s: Peers at site %d of the states %v: %v, want %v", what, s.Site, s.Epoch.States, got, want)
	}
}

func wantLacks(t *testing.T, what string, s api.Snap, site int, want bool) {
	t.Helper()
	if got := exchange.Lacks(s, site); got != want {
		t.Errorf("%s: Lacks of %d is %v", what, site, got)
	}
}

// knowing is a state at site 0 of an epoch in which all are members.
func knowing() api.Snap {
	var s api.Snap
	s.Epoch.Number = 5
	for o := range s.Epoch.States {
		s.Epoch.States[o] = siteMember
	}
	return s
}

// keeping is such a state that keeps n operations of an origin, from the number start on, up to which all sites have them.
func keeping(origin int, start int64, n int) api.Snap {
	s := knowing()
	s.Starts[origin], s.Kept[origin] = start, opsFrom(origin, start+1, n)
	s.Vector[origin] = start + int64(n)
	for site := range s.Known {
		s.Known[site][origin] = start
	}
	return s
}
