package acceptor_test

import (
	"math"
	"testing"

	"orchard/acceptor"
	"orchard/api"
)

// The chapter's head: Compare, Check, the errors' numbers.

func TestCompare(t *testing.T) {
	l := rising()
	for i, a := range l {
		for j, b := range l {
			want := 0
			if i < j {
				want = -1
			} else if i > j {
				want = 1
			}
			if got := acceptor.Compare(a, b); got != want {
				t.Errorf("Compare(%v, %v): %d, want %d", a, b, got, want)
			}
		}
	}
}

// TestCompareAnyBallots: also such as may not be; the zero one is below all that may be.
func TestCompareAnyBallots(t *testing.T) {
	for _, b := range rising() {
		if acceptor.Compare(api.Ballot{}, b) != -1 || acceptor.Compare(b, api.Ballot{}) != 1 {
			t.Errorf("the zero ballot is not below %v", b)
		}
	}
	if acceptor.Compare(api.Ballot{}, api.Ballot{}) != 0 {
		t.Error("the zero ballot is not the same as itself")
	}
	rounds := []int64{math.MinInt64, -1, 0, 1, latest, latest + 1, math.MaxInt64}
	numbers := []int{math.MinInt, -1, 0, 4, 5, math.MaxInt}
	for i := range len(rounds) * len(numbers) {
		for j := range len(rounds) * len(numbers) {
			a := ballot(rounds[i/len(numbers)], numbers[i%len(numbers)])
			b := ballot(rounds[j/len(numbers)], numbers[j%len(numbers)])
			want := min(1, max(-1, i-j))
			if got := acceptor.Compare(a, b); got != want {
				t.Errorf("Compare(%v, %v): %d, want %d", a, b, got, want)
			}
		}
	}
}

func TestCheck(t *testing.T) {
	for _, b := range rising() {
		if !acceptor.Check(b) {
			t.Errorf("%v may be", b)
		}
	}
	for _, b := range noBallots() {
		if acceptor.Check(b) {
			t.Errorf("%v may not be", b)
		}
	}
	for replica := range replicas {
		for _, round := range []int64{1, latest} {
			if !acceptor.Check(ballot(round, replica)) {
				t.Errorf("%v may be", ballot(round, replica))
			}
		}
		for _, round := range []int64{0, latest + 1} {
			if acceptor.Check(ballot(round, replica)) {
				t.Errorf("%v may not be", ballot(round, replica))
			}
		}
	}
}

func TestErrorsNumbers(t *testing.T) {
	if api.ErrLow != 70 || api.ErrGone != 71 {
		t.Error("ErrLow and ErrGone are", api.ErrLow, api.ErrGone)
	}
}
