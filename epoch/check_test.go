package epoch_test

import (
	"math"
	"testing"

	"orchard/api"
	"orchard/epoch"
)

// Which epoch may be.

func wantCheck(t *testing.T, what string, e api.Epoch, want bool) {
	t.Helper()
	if got := epoch.Check(e); got != want {
		t.Errorf("Check, %s: %v is %v", what, e, got)
	}
}

func TestCheckOfEpochs(t *testing.T) {
	for _, e := range several() {
		wantCheck(t, "one that may be", e, true)
	}
	for _, e := range unlikely() {
		wantCheck(t, "one that may not be", e, false)
	}
}

func TestCheckOfNumbers(t *testing.T) {
	for _, e := range []api.Epoch{epochOf(0, isMember), ofAll()} {
		for _, n := range []int64{0, 1, 2, maxEpochs - 2, maxEpochs - 1} {
			wantCheck(t, "its number", numbered(e, n), true)
		}
		for _, n := range []int64{math.MinInt64, -2, -1, maxEpochs, maxEpochs + 1, latest, math.MaxInt64} {
			wantCheck(t, "its number", numbered(e, n), false)
		}
	}
}

func TestCheckOfStates(t *testing.T) {
	for site := range sites {
		e := epochOf(5, isMember, isMember)
		for _, state := range []int{none, member, leaving, retired} {
			wantCheck(t, "a state", with(e, site, place{state, 0, -1}), true)
		}
		for _, state := range []int{math.MinInt, -2, -1, 4, 5, math.MaxInt} {
			wantCheck(t, "a state", with(e, site, place{state, 0, -1}), false)
		}
	}
}

func TestCheckOfSeals(t *testing.T) {
	for site := range sites {
		e := epochOf(5, isMember, isMember)
		for _, seal := range lengthNumbers() {
			for _, state := range []int{none, member, leaving} {
				wantCheck(t, "a seal of one that is not retired", with(e, site, place{state, seal, -1}), seal == 0)
			}
			wantCheck(t, "a seal of a retired one", with(e, site, place{retired, seal, -1}), 0 <= seal && seal <= latest)
		}
	}
}

func TestCheckOfSponsors(t *testing.T) {
	for site := range sites {
		e := epochOf(5, isMember, isMember)
		for _, sponsor := range siteNumbers() {
			wantCheck(t, "a sponsor of none", with(e, site, place{none, 0, sponsor}), sponsor == -1)
			for _, state := range []int{member, leaving, retired} {
				wantCheck(t, "a sponsor", with(e, site, place{state, 0, sponsor}), -1 <= sponsor && sponsor <= 7 && sponsor != site)
			}
		}
	}
}

// TestCheckOfMembers: some site is SiteMember; one that leaves is not enough.
func TestCheckOfMembers(t *testing.T) {
	for site := range sites {
		wantCheck(t, "one alone", with(epochOf(5), site, isMember), true)
		for _, p := range []place{isNone, isLeaving, by(leaving, (site+1)%sites), retiredAt(3, -1)} {
			wantCheck(t, "no member", with(epochOf(5), site, p), false)
			e := epochOf(5, isLeaving, isLeaving, isLeaving, isLeaving, retiredAt(1, 2), retiredAt(2, 3), isLeaving, retiredAt(9, -1))
			wantCheck(t, "no member", with(e, site, p), false)
			wantCheck(t, "a member", with(with(e, site, p), (site+3)%sites, isMember), true)
		}
	}
}

// TestCheckOfAnyPlace: every site, every combination of a state, a seal and a sponsor, with a member beside it and without one.
func TestCheckOfAnyPlace(t *testing.T) {
	for site := range sites {
		alone, beside := epochOf(5), with(epochOf(5), (site+1)%sites, isMember)
		for state := -1; state <= 4; state++ {
			for _, seal := range lengthNumbers() {
				for _, sponsor := range siteNumbers() {
					p := place{state, seal, sponsor}
					for _, e := range []api.Epoch{with(alone, site, p), with(beside, site, p), numbered(with(beside, site, p), maxEpochs)} {
						wantCheck(t, "a place", e, modelCheck(e))
					}
				}
			}
		}
	}
}
