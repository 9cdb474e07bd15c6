package epoch_test

import (
	"math"
	"testing"

	"orchard/api"
	"orchard/epoch"
)

// P17.3: Follows, and the function Sealed.

func wantFollows(t *testing.T, what string, a, b api.Epoch, want bool) {
	t.Helper()
	if got := epoch.Follows(a, b); got != want {
		t.Errorf("Follows, %s: of %v and %v it is %v", what, a, b, got)
	}
}

func TestFollows(t *testing.T) {
	a := ofAll()
	wantFollows(t, "one joins", a, numbered(with(a, 6, by(member, 7)), 13), true)
	wantFollows(t, "one leaves", a, numbered(with(a, 1, by(leaving, 0)), 13), true)
	wantFollows(t, "one is retired", a, numbered(with(a, 2, retiredAt(latest, 1)), 13), true)
	wantFollows(t, "one is retired with nothing", a, numbered(with(a, 3, retiredAt(0, -1)), 13), true)

	wantFollows(t, "the same", a, a, false)
	wantFollows(t, "nothing but the number", a, numbered(a, 13), false)
	wantFollows(t, "without a new number", a, with(a, 1, by(leaving, 0)), false)
	wantFollows(t, "a number left out", a, numbered(with(a, 1, by(leaving, 0)), 14), false)
	wantFollows(t, "backwards", numbered(with(a, 1, by(leaving, 0)), 13), a, false)
	wantFollows(t, "two leave", a, numbered(with(with(a, 1, by(leaving, 0)), 0, isLeaving), 13), false)
	wantFollows(t, "one joins without a sponsor", a, numbered(with(a, 6, isMember), 13), false)
	wantFollows(t, "one joins by one that leaves", a, numbered(with(a, 6, by(member, 2)), 13), false)
	wantFollows(t, "one joins by itself", a, numbered(with(a, 6, by(member, 6)), 13), false)
	wantFollows(t, "one that was none leaves", a, numbered(with(a, 6, by(leaving, 7)), 13), false)
	wantFollows(t, "one that is a member is retired", a, numbered(with(a, 1, retiredAt(3, 0)), 13), false)
	wantFollows(t, "one comes back", a, numbered(with(a, 2, by(member, 1)), 13), false)
	wantFollows(t, "one is none again", a, numbered(with(a, 1, isNone), 13), false)
	wantFollows(t, "a seal below 0", a, numbered(with(a, 2, retiredAt(-1, 1)), 13), false)
	wantFollows(t, "a seal above MaxTime", a, numbered(with(a, 2, retiredAt(latest+1, 1)), 13), false)
	wantFollows(t, "another seal", a, numbered(with(a, 4, retiredAt(41, 2)), 13), false)
	wantFollows(t, "another sponsor", a, numbered(with(a, 1, by(member, 7)), 13), false)
	wantFollows(t, "one leaves, and has another sponsor", a, numbered(with(a, 1, by(leaving, 7)), 13), false)
	wantFollows(t, "one leaves, and another has another seal", a, numbered(with(with(a, 1, by(leaving, 0)), 4, retiredAt(41, 2)), 13), false)
	wantFollows(t, "no state", a, numbered(with(a, 6, place{4, 0, 7}), 13), false)
	wantFollows(t, "no state", a, numbered(with(a, 6, place{-1, 0, -1}), 13), false)
}

func TestFollowsOfTheLastEpoch(t *testing.T) {
	last := numbered(ofAll(), maxEpochs-1)
	wantFollows(t, "up to the last one", numbered(ofAll(), maxEpochs-2), numbered(with(last, 1, by(leaving, 0)), maxEpochs-1), true)
	wantFollows(t, "behind the last one", last, numbered(with(last, 1, by(leaving, 0)), maxEpochs), false)
	wantFollows(t, "the last member leaves", epochOf(3, isMember), epochOf(4, isLeaving), false)
}

func TestFollowsOfWhatMayNotBe(t *testing.T) {
	for _, a := range unlikely() {
		for _, b := range append(several(), unlikely()...) {
			wantFollows(t, "one that may not be", a, b, false)
			wantFollows(t, "one that may not be", b, a, false)
		}
		next := a
		next.Number++
		for site := range sites {
			for _, p := range []place{isMember, isLeaving, by(member, 0), retiredAt(1, -1)} {
				wantFollows(t, "one that may not be", a, with(next, site, p), false)
			}
		}
	}
}

// placesOf are all places of a site among three, with two seals and the sponsors there are.
func placesOf(site int) []place {
	l := []place{isNone}
	for sponsor := -1; sponsor < 3; sponsor++ {
		if sponsor != site {
			l = append(l, by(member, sponsor), by(leaving, sponsor), retiredAt(0, sponsor), retiredAt(1, sponsor))
		}
	}
	return l
}

// ofThree are all epochs of three sites that may be, by placesOf, with that number.
func ofThree(number int64) []api.Epoch {
	var l []api.Epoch
	for _, p := range placesOf(0) {
		for _, q := range placesOf(1) {
			for _, r := range placesOf(2) {
				if e := epochOf(number, p, q, r); modelCheck(e) {
					l = append(l, e)
				}
			}
		}
	}
	return l
}

// TestFollowsOfAnyTwo: any two epochs of three sites, against every entry that may make one of the other.
func TestFollowsOfAnyTwo(t *testing.T) {
	behind := ofThree(5)
	pairs := 0
	for _, a := range ofThree(4) {
		made := map[api.Epoch]bool{}
		for site := range 3 {
			for sponsor := range 3 {
				for length := range int64(2) {
					for kind := enJoin; kind <= enSealed; kind++ {
						if e, err := epoch.Apply(a, api.Entry{Kind: kind, Site: site, Sponsor: sponsor, Length: length}); err == api.OK {
							made[e] = true
						}
					}
				}
			}
		}
		for _, b := range behind {
			if epoch.Follows(a, b) != made[b] {
				t.Fatalf("Follows of %v and %v is %v", a, b, !made[b])
			}
			if made[b] {
				pairs++
			}
			delete(made, b)
		}
		if len(made) != 0 {
			t.Fatalf("of %v some entries make %v", a, made)
		}
	}
	if pairs < 1000 {
		t.Errorf("only %d of them follow", pairs)
	}
}

// TestFollowsWithOneFieldAnother: what follows, and then anything in one of its fields; by the model's telling, which tries every entry.
func TestFollowsWithOneFieldAnother(t *testing.T) {
	for _, a := range []api.Epoch{ofAll(), epochOf(0, isMember, isMember, isLeaving), epochOf(maxEpochs-2, isMember, isMember, isLeaving), epochOf(maxEpochs-1, isMember, isMember, isLeaving)} {
		for x := range modelEntries(a) {
			b, err := epoch.Apply(a, x)
			if err != api.OK {
				continue
			}
			wantFollows(t, "what an entry makes", a, b, true)
			for site := range sites {
				for _, n := range siteNumbers() {
					c, d := b, b
					c.States[site], d.Sponsor[site] = n, n
					wantFollows(t, "another state", a, c, modelFollows(a, c))
					wantFollows(t, "another sponsor", a, d, modelFollows(a, d))
				}
				for _, n := range lengthNumbers() {
					c := b
					c.Seals[site] = n
					wantFollows(t, "another seal", a, c, modelFollows(a, c))
					wantFollows(t, "another number", a, numbered(b, n), n == b.Number)
				}
			}
		}
	}
}

func TestSealedVectors(t *testing.T) {
	e := epochOf(3, isMember, retiredAt(40, -1), isLeaving, retiredAt(0, 0), isNone, retiredAt(latest, 1), by(leaving, 0), by(member, 0))
	for _, c := range []struct{ v, want api.Vector }{
		{api.Vector{50, 50}, api.Vector{50, 40}},
		{api.Vector{}, api.Vector{}},
		{api.Vector{9, 39, 9, 9, 9, 9, 9, 9}, api.Vector{9, 39, 9, 0, 9, 9, 9, 9}},
		{api.Vector{1, 40, 1, 0, 1, latest, 1, 1}, api.Vector{1, 40, 1, 0, 1, latest, 1, 1}},
		{api.Vector{latest, 41, latest, 1, latest, latest + 1, latest, latest}, api.Vector{latest, 40, latest, 0, latest, latest, latest, latest}},
		{api.Vector{-1, -2, -3, -4, -5, -6, -7, -8}, api.Vector{-1, -2, -3, -4, -5, -6, -7, -8}},
	} {
		if got := epoch.Sealed(e, c.v); got != c.want {
			t.Errorf("Sealed of %v: %v, want %v", c.v, got, c.want)
		}
	}
}

// TestSealedWithAnyNumbers: each site in each state, also of epochs that may not be.
func TestSealedWithAnyNumbers(t *testing.T) {
	for site := range sites {
		for _, state := range []int{math.MinInt, -1, none, member, leaving, retired, 4, 7} {
			for _, seal := range lengthNumbers() {
				e := with(ofAll(), site, place{state, seal, -1})
				for _, n := range lengthNumbers() {
					v := api.Vector{n, n, n, n, n, n, n, n}
					want := v
					want[4], want[5] = min(n, 40), min(n, 0)
					want[site] = n
					if state == retired && n > seal {
						want[site] = seal
					}
					if got := epoch.Sealed(e, v); got != want {
						t.Fatalf("Sealed of %v and %v: %v, want %v", e, v, got, want)
					}
				}
			}
		}
	}
}
