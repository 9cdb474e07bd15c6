package epoch_test

import (
	"math"
	"slices"
	"testing"

	"orchard/api"
	"orchard/epoch"
)

// The document's numbers, told anew.
const (
	sites     = 8       // 0 to 7
	maxEpochs = 1 << 10 // their numbers are below it
	latest    = 1 << 40 // a length, a seal

	none    = 0
	member  = 1
	leaving = 2
	retired = 3

	errArg   = 1
	errMade  = 2
	errLong  = 3
	errTwice = 5
	errLast  = 170
	errState = 171

	enNone   = 0
	enJoin   = 6
	enLeave  = 7
	enSealed = 8
)

// source is a sequence that is the same in each run.
type source uint64

func (s *source) next() uint64 {
	*s = *s*6364136223846793005 + 1442695040888963407
	return uint64(*s >> 33)
}

func (s *source) below(n int) int { return int(s.next() % uint64(n)) }

func one[T any](s *source, l ...T) T { return l[s.below(len(l))] }

func join(site, sponsor int) api.Entry {
	return api.Entry{Kind: enJoin, Site: site, Sponsor: sponsor}
}

func leave(site int) api.Entry { return api.Entry{Kind: enLeave, Site: site} }

func sealed(site int, length int64) api.Entry {
	return api.Entry{Kind: enSealed, Site: site, Length: length}
}

// place is a site in an epoch.
type place struct {
	state   int
	seal    int64
	sponsor int
}

var (
	isNone    = place{none, 0, -1}
	isMember  = place{member, 0, -1}
	isLeaving = place{leaving, 0, -1}
)

func by(state, sponsor int) place { return place{state, 0, sponsor} }

func retiredAt(seal int64, sponsor int) place { return place{retired, seal, sponsor} }

// epochOf is the epoch with these places of the first sites; the others are none.
func epochOf(number int64, places ...place) api.Epoch {
	e := api.Epoch{Number: number}
	for site := range sites {
		e = with(e, site, isNone)
	}
	for site, p := range places {
		e = with(e, site, p)
	}
	return e
}

func with(e api.Epoch, site int, p place) api.Epoch {
	e.States[site], e.Seals[site], e.Sponsor[site] = p.state, p.seal, p.sponsor
	return e
}

func numbered(e api.Epoch, number int64) api.Epoch {
	e.Number = number
	return e
}

// ofAll has a site of each state, each with and without a sponsor where it may have one.
func ofAll() api.Epoch {
	return epochOf(12, isMember, by(member, 0), by(leaving, 1), isLeaving, retiredAt(40, 2), retiredAt(0, -1), isNone, by(member, 6))
}

// several are epochs that may be.
func several() []api.Epoch {
	return []api.Epoch{
		epochOf(0, isMember), epochOf(0, isMember, isMember), epochOf(0, isNone, isNone, isMember),
		epochOf(maxEpochs-1, isMember, by(member, 0)), epochOf(maxEpochs-2, isMember, isMember),
		epochOf(7, retiredAt(latest, 7), isMember, by(leaving, 7), isMember), epochOf(3, isLeaving, by(member, 0)),
		ofAll(), numbered(ofAll(), maxEpochs-2), numbered(ofAll(), maxEpochs-1),
	}
}

// unlikely are epochs that may not be.
func unlikely() []api.Epoch {
	return []api.Epoch{
		{}, epochOf(0), epochOf(-1, isMember, isMember), epochOf(maxEpochs, isMember, isMember), epochOf(0, isLeaving),
		epochOf(0, isMember, place{4, 0, -1}), epochOf(0, isMember, place{-1, 0, -1}), epochOf(0, isMember, place{none, 1, -1}),
		epochOf(0, isMember, place{retired, -1, -1}), epochOf(0, isMember, place{retired, latest + 1, -1}), epochOf(0, by(member, 0)),
		epochOf(0, by(member, -2), isMember), epochOf(0, by(member, 8), isMember), epochOf(0, isMember, by(none, 0)),
		{Number: math.MinInt64, States: [8]int{math.MaxInt, math.MinInt}, Seals: api.Vector{math.MinInt64}, Sponsor: [8]int{math.MaxInt, math.MinInt}},
	}
}

// siteNumbers are sites and what is near them, lengthNumbers lengths and seals.
func siteNumbers() []int { return []int{math.MinInt, -2, -1, 0, 1, 2, 6, 7, 8, 9, math.MaxInt} }

func lengthNumbers() []int64 {
	return []int64{math.MinInt64, -latest, -1, 0, 1, 2, 40, latest - 1, latest, latest + 1, math.MaxInt64}
}

// kinds are those of entries, and what is near them.
func kinds() []int {
	return []int{math.MinInt, -8, -1, 0, 1, 2, 3, 4, 5, 6, 7, 8, 9, 10, 64, math.MaxInt}
}

// filled has anything in all fields but those that an entry of the configuration needs.
func filled(x api.Entry) api.Entry {
	ops := []api.Op{{Kind: api.OpMake, Name: "a"}, {Stamp: api.Stamp{Time: -1, Site: 99}, Value: "b"}}
	y := api.Entry{Kind: x.Kind, Session: -1, Request: math.MaxInt64, Op: ops[1], Origin: -9, Seq: math.MinInt64, Ops: ops,
		Epoch: unlikely()[14], From: 77, Vector: api.Vector{-1, math.MaxInt64}, Clock: -3, Part: api.Part{Snap: -1, Index: 5, Data: []byte("data")},
		Site: x.Site, Sponsor: -77, Length: -77}
	switch x.Kind {
	case enJoin:
		y.Sponsor = x.Sponsor
	case enSealed:
		y.Length = x.Length
	}
	return y
}

func wantErr(t *testing.T, what string, got, want api.Errno) {
	t.Helper()
	if got != want {
		t.Errorf("%s: error %d, want %d", what, got, want)
	}
}

func wantEpoch(t *testing.T, what string, got, want api.Epoch) {
	t.Helper()
	if got != want {
		t.Errorf("%s: the epoch is %v, want %v", what, got, want)
	}
}

func wantEpochs(t *testing.T, what string, got, want []api.Epoch) {
	t.Helper()
	if !slices.Equal(got, want) {
		t.Errorf("%s: the epochs are %v, want %v", what, got, want)
	}
}

// look sees a machine by all calls that tell of it.
func look(t *testing.T, m *epoch.Machine) []api.Epoch {
	t.Helper()
	l := slices.Collect(m.All())
	if len(l) == 0 {
		t.Fatal("All tells no epoch")
	}
	if m.Current() != l[len(l)-1] {
		t.Errorf("Current is %v, and All tells %v", m.Current(), l)
	}
	for i, e := range l {
		if got, ok := m.At(int64(i)); got != e || !ok {
			t.Errorf("At(%d) is %v, %v, and All tells %v", i, got, ok, e)
		}
	}
	for _, number := range []int64{math.MinInt64, -2, -1, int64(len(l)), int64(len(l)) + 1, maxEpochs, math.MaxInt64} {
		if got, ok := m.At(number); got != (api.Epoch{}) || ok {
			t.Errorf("At(%d) is %v, %v, and there are %d", number, got, ok, len(l))
		}
	}
	if !slices.Equal(m.Bytes(), modelBytes(l...)) {
		t.Errorf("Bytes is %v, and All tells %v", m.Bytes(), l)
	}
	return l
}

func wantMachine(t *testing.T, what string, m *epoch.Machine, want []api.Epoch) {
	t.Helper()
	wantEpochs(t, what, look(t, m), want)
}

func newOne(t *testing.T, members ...int) *epoch.Machine {
	t.Helper()
	m, err := epoch.New(members...)
	if m == nil || err != api.OK {
		t.Fatalf("New of %v: %v, error %d", members, m, err)
	}
	return m
}

// life is a machine's members and its entries, each of which makes an epoch.
type life struct {
	members []int
	entries []api.Entry
}

func (l life) made(t *testing.T) *epoch.Machine {
	t.Helper()
	m := newOne(t, l.members...)
	for _, x := range l.entries {
		wantErr(t, "Apply", m.Apply(x), api.OK)
	}
	return m
}

// longest is as long as a machine's life can be: one site, by which all others join; all but one leave and are retired.
func longest() life {
	l := life{members: []int{3}}
	for site := range sites {
		if site != 3 {
			l.entries = append(l.entries, join(site, 3))
		}
	}
	for site := range sites - 1 {
		l.entries = append(l.entries, leave(site))
	}
	for site := range sites - 1 {
		l.entries = append(l.entries, sealed(site, latest-int64(site)))
	}
	return l
}

// lives are of one and of several members, in any order; of sites that join, leave, and are retired.
func lives() []life {
	return []life{
		{members: []int{0}},
		{members: []int{7}},
		{members: []int{5, 0, 7, 1}},
		{members: []int{0, 1, 2, 3, 4, 5, 6, 7}},
		{[]int{0, 1}, []api.Entry{join(2, 0), leave(1), sealed(1, 40)}},
		{[]int{4}, []api.Entry{join(7, 4), leave(4), join(0, 7), join(1, 0), sealed(4, 0), leave(7), sealed(7, latest)}},
		{[]int{7, 6, 5, 4, 3, 2, 1, 0}, []api.Entry{leave(7), leave(0), sealed(0, 1), sealed(7, latest), leave(3)}},
		longest(),
	}
}
