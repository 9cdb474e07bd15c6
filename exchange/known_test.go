package exchange_test

import (
	"math"
	"reflect"
	"testing"

	"orchard/api"
	"orchard/exchange"
	"orchard/record"
)

// P16.2.

func wantKnown(t *testing.T, what string, s api.Snap, from, to api.Addr) {
	t.Helper()
	want := api.Msg{Kind: 10, From: from, To: to, Number: s.Epoch.Number, Vector: s.Vector, Clock: s.Clock}
	if m, err := exchange.Known(s, from, to); err != api.OK || !record.SameMsg(m, want) {
		t.Errorf("%s: Known from %v to %v: %v, error %d, want %v", what, from, to, m, err, want)
	}
}

func wantNoKnown(t *testing.T, what string, s api.Snap, from, to api.Addr) {
	t.Helper()
	if m, err := exchange.Known(s, from, to); err != 1 || !reflect.ValueOf(m).IsZero() {
		t.Errorf("%s: Known from %v to %v: %v, error %d, want none and 1", what, from, to, m, err)
	}
}

// busy is a state all of whose fields differ from one another.
func busy() api.Snap {
	s := keeping(2, 5, 20)
	s.Site, s.Applied, s.Booted, s.Clock, s.Frontier = 3, 11, true, 77, 44
	for o := range int64(sites) {
		s.Vector[o], s.Last[o], s.Clocks[o], s.Told[o], s.Sure[o] = 100+o, 200+o, 300+o, 400+o, 500+o
		s.Epoch.Seals[o], s.Known[o] = 600+o, api.Vector{o, o, 8, o, o, o, o, o}
	}
	s.Log = opsFrom(1, 60, 3)
	return s
}

// numbered is a state with such numbers as may be and such as may not.
func numbered(n int64) api.Snap {
	s := busy()
	s.Epoch.Number, s.Clock = n, n
	s.Vector = api.Vector{n, n, n, n, n, n, n, n}
	return s
}

func TestKnownFromAndTo(t *testing.T) {
	for _, from := range addrs() {
		for _, to := range addrs() {
			wantKnown(t, "of nothing", api.Snap{}, from, to)
			wantKnown(t, "of all", busy(), from, to)
		}
	}
}

func TestKnownFromAndToNoAddress(t *testing.T) {
	for _, bad := range noAddrs() {
		for _, good := range addrs() {
			wantNoKnown(t, "from none", busy(), bad, good)
			wantNoKnown(t, "to none", busy(), good, bad)
		}
		for _, other := range noAddrs() {
			wantNoKnown(t, "from none to none", busy(), bad, other)
		}
	}
}

// TestKnownOfEachAddress: just the groups 0 to 8 and the replicas 0 to 4.
func TestKnownOfEachAddress(t *testing.T) {
	for group := -2; group < 12; group++ {
		for replica := -2; replica < 8; replica++ {
			a := at(group, replica)
			if group >= 0 && group <= 8 && replica >= 0 && replica <= 4 {
				wantKnown(t, "from it", busy(), a, at(1, 1))
				wantKnown(t, "to it", busy(), at(1, 1), a)
			} else {
				wantNoKnown(t, "from it", busy(), a, at(1, 1))
				wantNoKnown(t, "to it", busy(), at(1, 1), a)
			}
		}
	}
}

// TestKnownOfAnyState: its numbers are told as they are.
func TestKnownOfAnyState(t *testing.T) {
	for _, n := range append([]int64{0, 1, latest - 1, latest}, noCounts()...) {
		wantKnown(t, "any numbers", numbered(n), at(3, 1), at(1, 0))
	}
	for _, site := range noSites() {
		s := busy()
		s.Site = site
		wantKnown(t, "of no site", s, at(3, 1), at(1, 0))
	}
}

// TestKnownMayBe: of a state that may be the message may be sent.
func TestKnownMayBe(t *testing.T) {
	for _, n := range []int64{0, 1, latest} {
		m, _ := exchange.Known(numbered(n), at(7, 4), at(config, 0))
		if err := record.CheckMsg(m); err != api.OK {
			t.Errorf("of numbers %d the message is refused: %d", n, err)
		}
	}
	if m, _ := exchange.Known(numbered(math.MaxInt64), at(7, 4), at(0, 0)); record.CheckMsg(m) == api.OK {
		t.Error("a message that may not be is not refused")
	}
}
