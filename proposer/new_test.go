package proposer_test

import (
	"math"
	"testing"

	"orchard/api"
	"orchard/proposer"
)

// P8.1: New and Ballot; the chapter's head: Majority, the errors' numbers.

func TestMajority(t *testing.T) {
	for n, want := range []int{0, 1, 2, 2, 3, 3, 0, 0} {
		if got := proposer.Majority(n); got != want {
			t.Errorf("Majority(%d): %d, want %d", n, got, want)
		}
	}
	for _, n := range []int{-1, -2, -5, math.MinInt, math.MinInt + 1, 8, 100, 257, 1 << 32, 1<<32 + 3, math.MaxInt - 1, math.MaxInt} {
		if got := proposer.Majority(n); got != 0 {
			t.Errorf("Majority(%d): %d, want 0", n, got)
		}
	}
}

func TestErrorsNumbers(t *testing.T) {
	if api.ErrReady != 80 || api.ErrField != 40 || api.MaxGap != gap {
		t.Error("ErrReady, ErrField and MaxGap are", api.ErrReady, api.ErrField, api.MaxGap)
	}
}

// TestNewOfEachEdge: each edge of each argument with each of the others'.
func TestNewOfEachEdge(t *testing.T) {
	counts := []int{math.MinInt, -1, 0, 1, 2, 3, 4, most, most + 1, math.MaxInt}
	rounds := []int64{math.MinInt64, -1, 0, 1, 2, latest - 1, latest, latest + 1, math.MaxInt64}
	slots := []int64{math.MinInt64, -1, 0, 1, latest - 1, latest, latest + 1, math.MaxInt64}
	for _, n := range counts {
		for _, round := range rounds {
			for _, replica := range []int{math.MinInt, -1, 0, 1, n - 1, n, most - 1, most, math.MaxInt} {
				for _, from := range slots {
					b := ballot(round, replica)
					ok := n >= 1 && n <= most && round >= 1 && round <= latest && replica >= 0 && replica < n && from >= 0 && from <= latest
					wantNew(t, b, from, n, ok)
				}
			}
		}
	}
}

func wantNew(t *testing.T, b api.Ballot, from int64, n int, ok bool) {
	t.Helper()
	if !ok {
		if p, err := proposer.New(b, from, n); p != nil || err != api.ErrArg {
			t.Errorf("New(%v, %d, %d): %v, error %d, want ErrArg", b, from, n, p, err)
		}
		return
	}
	p := newOne(t, b, from, n)
	wantFace(t, "New", p, from, face{ballot: b, next: from})
}

// TestNobodyHasPromised: of a new one each replica's promise is its first one.
func TestNobodyHasPromised(t *testing.T) {
	for n := 1; n <= most; n++ {
		for _, order := range orders(n) {
			p := newOne(t, ballot(1, n-1), 7, n)
			for i, replica := range order {
				wantPromise(t, "its first one", p, i+1 >= half(n), replica)
				wantNoPromise(t, "its second one", p, api.ErrTwice, replica)
			}
			wantFace(t, "all have promised", p, 7, face{ballot: ballot(1, n-1), ready: true, next: 7})
		}
	}
}

// TestBallotStays: whatever is done.
func TestBallotStays(t *testing.T) {
	p := ready(t, ballot(3, 1), 10, 3, slotted(12, ballot(3, 0), named(1)))
	wantPut(t, "one", p, 13, named(2))
	choose(t, p, 10, 11, 12, 13)
	wantForget(t, "all", p, api.OK, 14)
	if p.Ballot() != ballot(3, 1) {
		t.Errorf("Ballot: %v", p.Ballot())
	}
}
