package proposer_test

import (
	"testing"

	"orchard/api"
)

// P8.3: Ready, Put and Next.

// TestReady: from the promise that makes the majority on.
func TestReady(t *testing.T) {
	for n := 1; n <= most; n++ {
		for _, order := range orders(n) {
			p := newOne(t, ballot(4, 0), 30, n)
			for i, replica := range order {
				if p.Ready() != (i >= half(n)) {
					t.Errorf("%d of %d have promised: ready is %v", i, n, p.Ready())
				}
				wantPromise(t, "one more", p, i+1 >= half(n), replica)
			}
		}
	}
}

// TestNextAheadOfAMajority: it is from, whatever came.
func TestNextAheadOfAMajority(t *testing.T) {
	for _, from := range []int64{0, 6, latest - 40, latest} {
		p := newOne(t, ballot(4, 0), from, 3)
		if p.Next() != from {
			t.Errorf("Next is %d, from is %d", p.Next(), from)
		}
		wantPromise(t, "one", p, false, 1, slotted(min(from+40, latest), ballot(1, 0), named(1)))
		if p.Next() != from {
			t.Errorf("Next is %d, from is %d", p.Next(), from)
		}
	}
}

func TestPutEachKind(t *testing.T) {
	for n := 1; n <= most; n++ {
		p := ready(t, ballot(4, n-1), 30, n, slotted(31, ballot(1, 0), named(1)))
		entries := []api.Entry{{}, named(1)}
		for i := range samples() {
			wantPut(t, "each Kind", p, 32+int64(i), sample(i))
			entries = append(entries, sample(i))
			wantFace(t, "each Kind", p, 0, face{ballot(4, n-1), true, 33 + int64(i), fresh(n, 30, entries...)})
		}
	}
}

// TestPutWhatIsRefused: told ahead of ErrReady and of ErrLong.
func TestPutWhatIsRefused(t *testing.T) {
	early, late := newOne(t, ballot(4, 0), latest, 3), ready(t, ballot(4, 0), latest, 3, slotted(latest, ballot(1, 0), named(1)))
	p := leading(t, 2)
	for _, e := range refused() {
		wantNoPut(t, "refused", p, api.ErrField, e)
		wantNoPut(t, "refused, and no majority", early, api.ErrField, e)
		wantNoPut(t, "refused, and no slot", late, api.ErrField, e)
	}
	for i := range samples() {
		wantNoPut(t, "no majority", early, api.ErrReady, sample(i))
		wantNoPut(t, "no slot", late, api.ErrLong, sample(i))
		wantPut(t, "behind what was refused", p, 12+int64(i), sample(i))
	}
}

// TestPutAtTheLastSlots: Next comes to MaxTime, and to one more.
func TestPutAtTheLastSlots(t *testing.T) {
	for _, from := range []int64{latest, latest - 1, latest - 3} {
		p := ready(t, ballot(4, 0), from, 3)
		var entries []api.Entry
		for number := from; number <= latest; number++ {
			wantPut(t, "the last slots", p, number, named(number-from))
			entries = append(entries, named(number-from))
		}
		for range 2 {
			wantNoPut(t, "no slot is left", p, api.ErrLong, named(1))
			wantFace(t, "the last slots", p, from, face{ballot(4, 0), true, latest + 1, fresh(3, from, entries...)})
		}
		choose(t, p, latest)
		if e, chosen := p.Chosen(latest); !chosen || !sameEntry(e, named(latest-from)) {
			t.Errorf("Chosen of the last slot: %v, %v", e, chosen)
		}
	}
}

// TestPutGoesOnWhateverIsChosen: Next does not hang on what is accepted or forgotten.
func TestPutGoesOnWhateverIsChosen(t *testing.T) {
	p := leading(t, 3)
	choose(t, p, 10, 12)
	wantPut(t, "behind what is chosen", p, 13, named(1))
	wantForget(t, "one", p, api.OK, 11)
	wantPut(t, "behind what is forgotten", p, 14, named(2))
	choose(t, p, 11, 13, 14)
	wantForget(t, "all", p, api.OK, 15)
	wantPut(t, "where nothing is left", p, 15, named(3))
	wantFace(t, "where nothing is left", p, 0, face{ballot(3, 1), true, 16, fresh(3, 15, named(3))})
}
