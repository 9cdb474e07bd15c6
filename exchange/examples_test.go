package exchange_test

import (
	"testing"

	"orchard/api"
)

// The examples of the chapter.

func TestExampleOfPush(t *testing.T) {
	var s api.Snap
	s.Starts[2], s.Kept[2], s.Vector[2] = 5, opsFrom(2, 1, 20), 25
	s.Known[1][2] = 8
	want := []api.Msg{
		push(s, at(0, 0), at(1, 0), 2, 8, s.Kept[2][3:19]),
		push(s, at(0, 0), at(1, 0), 2, 24, s.Kept[2][19:]),
	}
	wantPush(t, "8 to 23, and 24", s, at(0, 0), at(1, 0), 100, want)
}

func TestExampleOfTake(t *testing.T) {
	s := having(2, 3, 12)
	ops := opsFrom(2, 12, 3) // the numbers 2, 3, 4
	wantTake(t, "of 2, 3, 4", s, 2, 2, ops, ops[1:])
	wantTake(t, "of 4 alone", s, 2, 4, ops[2:], nil)
	s.Epoch.States[2], s.Epoch.Seals[2] = api.SiteRetired, 4
	ops = opsFrom(2, 13, 3) // the numbers 3, 4, 5
	wantTake(t, "with the seal 4", s, 2, 3, ops, ops[:1])
}
