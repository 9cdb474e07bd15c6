package exchange_test

import (
	"math"
	"testing"

	"orchard/api"
)

// P16.6. (Of EnRemote wantTake asks, beside each Take.)

func TestUsefulAlwaysOrNever(t *testing.T) {
	for _, s := range []api.Snap{{}, knowing(), busy()} {
		for kind := -2; kind < 12; kind++ {
			if kind >= 2 && kind <= 4 {
				continue
			}
			always := kind == 1 || kind == 5
			wantUseful(t, "by its kind", s, api.Entry{Kind: kind}, always)
			x := api.Entry{Kind: kind, Seq: s.Epoch.Number, From: 1, Origin: 1, Vector: vector(latest), Clock: latest, Ops: opsFrom(1, latest-9, 3), Epoch: api.Epoch{Number: latest}}
			wantUseful(t, "by its kind, of all fields", s, x, always)
		}
		for _, kind := range []int{math.MinInt, math.MaxInt} {
			wantUseful(t, "of no kind", s, api.Entry{Kind: kind}, false)
		}
	}
}

func TestUsefulEpoch(t *testing.T) {
	for _, n := range append(noCounts(), 0, 1, 7, latest-1, latest) {
		s := knowing()
		s.Epoch.Number = n
		for _, m := range append(noCounts(), 0, 1, 6, 7, 8, latest-1, latest) {
			wantUseful(t, "an epoch", s, api.Entry{Kind: 3, Epoch: api.Epoch{Number: m}}, m > n)
			// Its own number counts, nothing else of it.
			wantUseful(t, "another epoch", s, api.Entry{Kind: 3, Seq: m + 1, Epoch: api.Epoch{Number: n, States: [sites]int{1, 2}}}, false)
		}
	}
}

// told is a state at site 3 of an epoch of members, and what the site from says in it: more by nothing.
func told(from int) (api.Snap, api.Entry) {
	s := busy()
	x := api.Entry{Kind: 4, Seq: s.Epoch.Number, From: from}
	if from >= 0 && from < sites {
		x.Vector, x.Clock = s.Known[from], s.Clocks[from]
	}
	return s, x
}

func TestUsefulKnown(t *testing.T) {
	for from := range sites {
		s, x := told(from)
		is := from != 3
		wantUseful(t, "no more", s, x, false)
		x.Clock++
		wantUseful(t, "a clock above", s, x, is)
		x.Clock -= 2
		wantUseful(t, "a clock below", s, x, false)
		for o := range sites {
			s, x = told(from)
			x.Vector[o]++
			wantUseful(t, "a number above", s, x, is)
			x.Clock = -1
			wantUseful(t, "a number above, a clock below", s, x, is)
			x.Vector[o] -= 2
			wantUseful(t, "a number below", s, x, false)
			x.Vector[(o+1)%sites]++
			wantUseful(t, "one above, one below", s, x, is)
			x.Vector[(o+1)%sites]--
			x.Clock = s.Clocks[from] + 1
			wantUseful(t, "a clock above, a number below", s, x, is)
		}
	}
}

// more is what a site says, with more of all.
func more(from int) (api.Snap, api.Entry) {
	s, x := told(from)
	x.Clock, x.Vector = latest, vector(latest-7)
	return s, x
}

func TestUsefulKnownByEpoch(t *testing.T) {
	s, x := more(1)
	for _, n := range []int64{-1, 0, 4, 5, 6, latest, math.MaxInt64, math.MinInt64} {
		x.Seq = n
		wantUseful(t, "of an epoch", s, x, n == 5)
	}
	s, x = more(1)
	for _, n := range noCounts() {
		s.Epoch.Number, x.Seq = n, n
		wantUseful(t, "of the same one, which is no count", s, x, true)
		x.Seq = 5
		wantUseful(t, "of another one", s, x, false)
	}
}

func TestUsefulKnownByState(t *testing.T) {
	for from := range sites {
		for _, state := range []int{math.MinInt, -1, siteNone, siteMember, siteLeaving, siteRetired, 4, math.MaxInt} {
			for _, self := range []int{-1, 0, from, 7, 8} {
				s, x := more(from)
				s.Site, s.Epoch.States[from] = self, state
				wantUseful(t, "by state", s, x, (state == siteMember || state == siteLeaving) && self != from)
			}
		}
	}
	for _, from := range noSites() {
		s, x := more(from)
		wantUseful(t, "of no site", s, x, false)
		s.Site = from
		wantUseful(t, "of no site at itself", s, x, false)
	}
}

// TestUsefulKnownOfAnyNumbers: they need be no counts.
func TestUsefulKnownOfAnyNumbers(t *testing.T) {
	for _, n := range append(noCounts(), 0, 1, latest) {
		for _, m := range append(noCounts(), 0, 1, latest) {
			s, x := told(6)
			s.Clocks[6], x.Clock = n, m
			wantUseful(t, "any clocks", s, x, m > n)
			s, x = told(6)
			s.Known[6][2], x.Vector[2] = n, m
			wantUseful(t, "any vectors", s, x, m > n)
		}
	}
}

// TestUsefulKnownOfThatSite: what others are known to have does not matter, nor what the state itself has.
func TestUsefulKnownOfThatSite(t *testing.T) {
	s, x := told(6)
	for site := range sites {
		if site != 6 {
			s.Known[site], s.Clocks[site] = api.Vector{}, 0
		}
	}
	s.Vector, s.Last, s.Clock = api.Vector{}, api.Vector{}, 0
	wantUseful(t, "no more than of that site", s, x, false)
}

// TestUsefulRemote: by the entry's own origin and number.
func TestUsefulRemote(t *testing.T) {
	for origin := range sites {
		s := having(origin, 5, 20)
		for seq := int64(3); seq < 8; seq++ {
			for n := range 5 {
				x := api.Entry{Kind: 2, Origin: origin, Seq: seq, Ops: opsFrom(origin, seq+16, n)}
				wantUseful(t, "of an origin", s, x, origin != 0 && seq <= 5 && seq+int64(n) > 5)
				x.From = 1
				wantUseful(t, "whoever it is from", s, x, origin != 0 && seq <= 5 && seq+int64(n) > 5)
			}
		}
	}
}
