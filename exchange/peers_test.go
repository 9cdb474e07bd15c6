package exchange_test

import (
	"math"
	"testing"

	"orchard/api"
)

// P16.1, and the document's numbers.

func TestNumbers(t *testing.T) {
	got := [...]int{api.SiteNone, api.SiteMember, api.SiteLeaving, api.SiteRetired}
	if got != [...]int{siteNone, siteMember, siteLeaving, siteRetired} {
		t.Error("SiteNone to SiteRetired are", got)
	}
	if api.MaxPush != batch || api.MaxTime != latest || api.MaxSites != sites || api.Config != config {
		t.Error("MaxPush, MaxTime, MaxSites, Config are", api.MaxPush, api.MaxTime, api.MaxSites, api.Config)
	}
}

// membersOf are the members but one site, told anew.
func membersOf(states [sites]int, but int) []int {
	var l []int
	for site := range sites {
		if site != but && states[site] >= 1 && states[site] <= 2 {
			l = append(l, site)
		}
	}
	return l
}

func allSites() []int { return append(noSites(), 0, 1, 2, 3, 4, 5, 6, 7) }

func TestPeersOfNone(t *testing.T) {
	for _, site := range allSites() {
		wantPeers(t, "nobody is a member", api.Snap{Site: site})
	}
}

// TestPeersOfEachState: each state at each site, alone and among members.
func TestPeersOfEachState(t *testing.T) {
	for _, state := range []int{math.MinInt, -1, siteNone, siteMember, siteLeaving, siteRetired, 4, math.MaxInt} {
		is := state == siteMember || state == siteLeaving
		for site := range sites {
			var s api.Snap
			s.Epoch.States[site] = state
			for _, self := range allSites() {
				s.Site = self
				if is && site != self {
					wantPeers(t, "one alone", s, site)
				} else {
					wantPeers(t, "one alone", s)
				}
			}
			among := knowing()
			among.Epoch.States[site] = state
			for _, self := range allSites() {
				among.Site = self
				wantPeers(t, "one among members", among, membersOf(among.Epoch.States, self)...)
			}
		}
	}
}

// TestPeersOfEveryEpoch: all states of all sites.
func TestPeersOfEveryEpoch(t *testing.T) {
	for n := range 1 << (2 * sites) {
		var s api.Snap
		for site := range sites {
			s.Epoch.States[site] = n >> (2 * site) & 3
		}
		s.Site = n%10 - 1
		wantPeers(t, "every epoch", s, membersOf(s.Epoch.States, s.Site)...)
		if t.Failed() {
			return
		}
	}
}

func TestPeersSpeltOut(t *testing.T) {
	s := api.Snap{Site: 2, Epoch: api.Epoch{States: [sites]int{siteMember, siteNone, siteMember, siteLeaving, siteRetired, siteMember, siteNone, siteLeaving}}}
	wantPeers(t, "some", s, 0, 3, 5, 7)
	s.Site = 4
	wantPeers(t, "of a retired one", s, 0, 2, 3, 5, 7)
	s.Site = -1
	wantPeers(t, "of no site", s, 0, 2, 3, 5, 7)
}

// TestLacksByOne: one more, as many and one fewer of each origin, at each site.
func TestLacksByOne(t *testing.T) {
	for site := range sites {
		for o := range sites {
			for _, n := range append([]int64{0, 1, 7, latest}, noCounts()...) {
				var s api.Snap
				for i := range s.Vector {
					s.Vector[i] = n
					s.Known[site][i] = n
				}
				wantLacks(t, "as many", s, site, false)
				if n < math.MaxInt64 {
					s.Known[site][o] = n + 1
					wantLacks(t, "one more", s, site, true)
				}
				if n > math.MinInt64 {
					s.Known[site][o] = n - 1
					wantLacks(t, "one fewer", s, site, false)
				}
			}
		}
	}
}

// TestLacksByOneAmongOthers: that one has much less of all others.
func TestLacksByOneAmongOthers(t *testing.T) {
	for site := range sites {
		for o := range sites {
			s := api.Snap{Vector: api.Vector{9, 9, 9, 9, 9, 9, 9, 9}, Site: 3}
			s.Known[site][o] = 10
			wantLacks(t, "one more of one origin", s, site, true)
			for other := range sites {
				if other != site {
					wantLacks(t, "of another one", s, other, false)
				}
			}
		}
	}
}

func TestLacksOfNoSite(t *testing.T) {
	s := knowing()
	for site := range sites {
		s.Known[site] = api.Vector{1, 1, 1, 1, 1, 1, 1, 1}
	}
	for _, site := range noSites() {
		wantLacks(t, "no site", s, site, false)
		wantLacks(t, "no site", api.Snap{}, site, false)
	}
	for site := range sites {
		wantLacks(t, "a site", s, site, true)
		s.Epoch.States[site] = siteNone
		wantLacks(t, "whatever its state is", s, site, true)
	}
}
