package epoch_test

import (
	"fmt"
	"math"
	"testing"

	"orchard/api"
	"orchard/epoch"
)

// P17.2: the function Apply.

func told(e api.Epoch, x api.Entry) string {
	return fmt.Sprintf("Apply of kind %d, site %d, sponsor %d, length %d to %v", x.Kind, x.Site, x.Sponsor, x.Length, e)
}

// wantApply: also with anything in the fields that count for nothing.
func wantApply(t *testing.T, e api.Epoch, x api.Entry, want api.Epoch) {
	t.Helper()
	for _, y := range []api.Entry{x, filled(x)} {
		got, err := epoch.Apply(e, y)
		wantErr(t, told(e, x), err, api.OK)
		wantEpoch(t, told(e, x), got, want)
	}
}

func wantNoApply(t *testing.T, e api.Epoch, x api.Entry, want api.Errno) {
	t.Helper()
	for _, y := range []api.Entry{x, filled(x)} {
		got, err := epoch.Apply(e, y)
		wantErr(t, told(e, x), err, want)
		wantEpoch(t, told(e, x), got, api.Epoch{})
	}
}

func TestJoin(t *testing.T) {
	for site := range sites {
		for sponsor := range sites {
			if sponsor == site {
				continue
			}
			e := with(with(epochOf(4), sponsor, isMember), (sponsor+3)%sites, retiredAt(9, sponsor))
			e = with(e, site, isNone)
			wantApply(t, e, join(site, sponsor), numbered(with(e, site, by(member, sponsor)), 5))
		}
	}
	// Site 6 alone is none, and 0, 1 and 7 take writes.
	for _, sponsor := range []int{0, 1, 7} {
		wantApply(t, ofAll(), join(6, sponsor), numbered(with(ofAll(), 6, by(member, sponsor)), 13))
	}
}

func TestJoinOfOneThatWasThere(t *testing.T) {
	for site := range sites {
		e := with(epochOf(4), (site+1)%sites, isMember)
		for _, state := range []int{member, leaving, retired} {
			// The site's state ahead of all that is said of the sponsor.
			for _, sponsor := range siteNumbers() {
				wantNoApply(t, with(e, site, by(state, -1)), join(site, sponsor), errState)
				wantNoApply(t, with(e, site, by(state, (site+1)%sites)), join(site, sponsor), errState)
			}
		}
	}
	for _, site := range []int{0, 1, 2, 3, 4, 5, 7} {
		wantNoApply(t, ofAll(), join(site, 0), errState)
	}
}

func TestJoinWithoutASponsor(t *testing.T) {
	for _, sponsor := range []int{math.MinInt, -9, -2, -1, 8, 9, math.MaxInt} {
		wantNoApply(t, ofAll(), join(6, sponsor), errArg)
		wantNoApply(t, epochOf(0, isMember), join(7, sponsor), errArg)
	}
	// One that leaves, one that is retired, itself.
	for _, sponsor := range []int{2, 3, 4, 5, 6} {
		wantNoApply(t, ofAll(), join(6, sponsor), errState)
	}
	// One that is none.
	wantNoApply(t, epochOf(0, isMember), join(7, 1), errState)
	wantNoApply(t, epochOf(0, isMember), join(7, 7), errState)
}

func TestLeave(t *testing.T) {
	for site := range sites {
		for other := range sites {
			if other == site {
				continue
			}
			for _, p := range []place{isMember, by(member, other)} {
				e := with(with(epochOf(4), site, p), other, isMember)
				wantApply(t, e, leave(site), numbered(with(e, site, place{leaving, 0, p.sponsor}), 5))
			}
		}
	}
}

func TestLeaveOfTheLastOne(t *testing.T) {
	for site := range sites {
		wantNoApply(t, with(epochOf(4), site, isMember), leave(site), errLast)
		// Those that leave or have left are none that take writes.
		e := epochOf(4, isLeaving, isLeaving, retiredAt(2, -1), isLeaving, retiredAt(4, 0), isNone, isLeaving, isLeaving)
		wantNoApply(t, with(e, site, by(member, (site+1)%sites)), leave(site), errLast)
	}
}

func TestLeaveOfNoMember(t *testing.T) {
	for _, site := range []int{2, 3, 4, 5, 6} {
		wantNoApply(t, ofAll(), leave(site), errState)
	}
	// Not a member, and one other alone: the state is told.
	for _, p := range []place{isNone, isLeaving, retiredAt(1, 0)} {
		wantNoApply(t, epochOf(4, isMember, p), leave(1), errState)
	}
}

func TestSealed(t *testing.T) {
	for site := range sites {
		for _, length := range []int64{0, 1, 2, 40, latest - 1, latest} {
			for _, p := range []place{isLeaving, by(leaving, (site+2)%sites)} {
				e := with(with(epochOf(4), site, p), (site+1)%sites, isMember)
				wantApply(t, e, sealed(site, length), numbered(with(e, site, retiredAt(length, p.sponsor)), 5))
			}
		}
	}
}

func TestSealedWithNoLength(t *testing.T) {
	for _, length := range []int64{math.MinInt64, -2, -1, latest + 1, math.MaxInt64} {
		wantNoApply(t, ofAll(), sealed(2, length), errArg)
		wantNoApply(t, ofAll(), sealed(3, length), errArg)
	}
}

func TestSealedOfOneThatDoesNotLeave(t *testing.T) {
	for _, site := range []int{0, 1, 4, 5, 6, 7} {
		// The state ahead of the length.
		for _, length := range lengthNumbers() {
			wantNoApply(t, ofAll(), sealed(site, length), errState)
		}
	}
}

// entriesOfOne are an entry of each kind, each of which ofAll takes.
func entriesOfOne() []api.Entry { return []api.Entry{join(6, 7), leave(1), sealed(2, 5)} }

func TestApplyOfOtherKinds(t *testing.T) {
	for _, kind := range kinds() {
		if enJoin <= kind && kind <= enSealed {
			continue
		}
		for site := range sites {
			wantNoApply(t, ofAll(), api.Entry{Kind: kind, Site: site}, errArg)
			wantNoApply(t, numbered(ofAll(), maxEpochs-1), api.Entry{Kind: kind, Site: site, Sponsor: 1}, errArg)
		}
	}
}

func TestApplyOfNoSite(t *testing.T) {
	for _, site := range siteNumbers() {
		if isSite(site) {
			continue
		}
		for _, x := range entriesOfOne() {
			x.Site = site
			wantNoApply(t, ofAll(), x, errArg)
			wantNoApply(t, numbered(ofAll(), maxEpochs-1), x, errArg)
		}
	}
}

func TestApplyToWhatMayNotBe(t *testing.T) {
	for _, e := range unlikely() {
		for _, x := range []api.Entry{join(6, 0), leave(0), leave(1), sealed(0, 5), sealed(1, 5), {}} {
			wantNoApply(t, e, x, errArg)
		}
	}
}

// TestApplyToTheLastEpoch: ErrLong behind what is said of all entries, ahead of what is said of each kind.
func TestApplyToTheLastEpoch(t *testing.T) {
	for _, x := range entriesOfOne() {
		next, err := epoch.Apply(numbered(ofAll(), maxEpochs-2), x)
		if err != api.OK || next.Number != maxEpochs-1 || !epoch.Check(next) {
			t.Errorf("%s: %v, error %d", told(numbered(ofAll(), maxEpochs-2), x), next, err)
		}
		wantNoApply(t, next, x, errLong)
		wantNoApply(t, numbered(ofAll(), maxEpochs-1), x, errLong)
		for site := range sites {
			x.Site, x.Sponsor, x.Length = site, -5, -5
			wantNoApply(t, numbered(ofAll(), maxEpochs-1), x, errLong)
			wantNoApply(t, with(epochOf(maxEpochs-1), site, isMember), x, errLong)
		}
	}
}

// TestApplyOfAnyEntry: every kind, site, sponsor and length, to epochs that may be and to such as may not be, by the model's telling of the chapter.
func TestApplyOfAnyEntry(t *testing.T) {
	for _, e := range append(several(), unlikely()...) {
		for _, kind := range kinds() {
			for _, site := range siteNumbers() {
				for _, sponsor := range siteNumbers() {
					for _, length := range lengthNumbers() {
						x := api.Entry{Kind: kind, Site: site, Sponsor: sponsor, Length: length}
						got, err := epoch.Apply(e, x)
						want, due := modelApply(e, x)
						if got != want || err != due {
							t.Fatalf("%s: %v, error %d, want %v, %d", told(e, x), got, err, want, due)
						}
					}
				}
			}
		}
	}
}
