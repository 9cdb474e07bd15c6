package proposer_test

import (
	"math"
	"testing"

	"orchard/api"
)

// P8.5: Forget.

// TestForgetEach: with slots chosen in every way, each number to forget below.
func TestForgetEach(t *testing.T) {
	for chosen := range 1 << 4 {
		for _, before := range []int64{math.MinInt64, -1, 0, 9, 10, 11, 12, 13, 14, 15, latest, latest + 1, math.MaxInt64} {
			p := leading(t, 4)
			want := api.OK
			if before > 14 {
				want = api.ErrArg
			}
			for i := range int64(4) {
				if chosen>>i&1 == 1 {
					choose(t, p, 10+i)
				} else if 10+i < before {
					want = api.ErrArg
				}
			}
			wantForget(t, "each", p, want, before)
			wantForget(t, "the same again", p, want, before)
			wantPut(t, "it goes on", p, 14, named(1))
		}
	}
}

// TestForgetWhatIsAcceptedByOne: it is not chosen yet.
func TestForgetWhatIsAcceptedByOne(t *testing.T) {
	p := leading(t, 2)
	choose(t, p, 10)
	wantAccepted(t, "one", p, false, 2, 11)
	wantForget(t, "at the least slot that is not chosen", p, api.OK, 11)
	wantForget(t, "one more", p, api.ErrArg, 12)
	wantAccepted(t, "another one", p, true, 0, 11)
	wantForget(t, "one more", p, api.OK, 12)
	wantForget(t, "above Next", p, api.ErrArg, 13)
}

// TestForgetOfAnErrorForgetsNothing: slots below the one that is not chosen stay, too.
func TestForgetOfAnErrorForgetsNothing(t *testing.T) {
	p := leading(t, 9)
	choose(t, p, 10, 11, 12, 13, 15, 16, 17, 18)
	for range 20 {
		wantForget(t, "14 is not chosen", p, api.ErrArg, 19)
		wantForget(t, "14 is not chosen", p, api.ErrArg, 15)
	}
	wantForget(t, "up to it", p, api.OK, 14)
}

// TestForgetAheadOfAMajority: ErrReady is told ahead of ErrArg.
func TestForgetAheadOfAMajority(t *testing.T) {
	p := newOne(t, ballot(6, 0), 20, 3)
	wantPromise(t, "one", p, false, 0, slotted(22, ballot(1, 0), named(1)))
	for _, before := range []int64{math.MinInt64, 0, 20, 21, 23, 24, math.MaxInt64} {
		wantForget(t, "no majority", p, api.ErrReady, before)
	}
	wantPromise(t, "another one", p, true, 1)
	wantForget(t, "at from", p, api.OK, 20)
	wantForget(t, "what came is not chosen", p, api.ErrArg, 21)
	choose(t, p, 20, 21, 22)
	wantForget(t, "at Next", p, api.OK, 23)
}

// TestForgetWhereNothingIs: Next is from.
func TestForgetWhereNothingIs(t *testing.T) {
	for _, from := range []int64{0, 5, latest} {
		p := ready(t, ballot(6, 0), from, 3)
		wantForget(t, "at Next", p, api.OK, from)
		wantForget(t, "above Next", p, api.ErrArg, from+1)
		wantForget(t, "below it", p, api.OK, from-1)
		wantPut(t, "it goes on", p, from, named(1))
	}
}

// TestForgetAtTheLastSlot: Next is above MaxTime.
func TestForgetAtTheLastSlot(t *testing.T) {
	p := ready(t, ballot(6, 0), latest, 3)
	wantPut(t, "the last one", p, latest, named(1))
	wantForget(t, "it is not chosen", p, api.ErrArg, latest+1)
	choose(t, p, latest)
	wantForget(t, "above Next", p, api.ErrArg, latest+2)
	wantForget(t, "at Next", p, api.OK, latest+1)
	wantNoPut(t, "no slot is left", p, api.ErrLong, named(1))
	wantNotAccepted(t, "forgotten", p, api.ErrNone, 2, latest)
}

// TestForgottenSlotsHaveNoEntry: whoever asks, and whatever was accepted.
func TestForgottenSlotsHaveNoEntry(t *testing.T) {
	p := leading(t, 9)
	for number := int64(10); number < 16; number++ {
		choose(t, p, number)
		wantForget(t, "one more", p, api.OK, number+1)
		for gone := int64(10); gone <= number; gone++ {
			if e, chosen := p.Chosen(gone); chosen || !sameEntry(e, api.Entry{}) || p.Missing(gone) != nil {
				t.Errorf("%d is forgotten: %v, %v, missing %v", gone, e, chosen, p.Missing(gone))
			}
			wantNotAccepted(t, "forgotten", p, api.ErrNone, 2, gone)
			wantNotAccepted(t, "forgotten, and accepted by it", p, api.ErrNone, 1, gone)
		}
	}
	wantForget(t, "below what is forgotten", p, api.OK, 12)
	wantFace(t, "the others", p, 0, face{ballot(3, 1), true, 19, fresh(3, 16, sample(6), sample(7), sample(8))})
}
