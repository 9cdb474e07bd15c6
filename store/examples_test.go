package store_test

import (
	"testing"

	"orchard/api"
)

// The examples of the chapter.

func TestExampleAcceptedOutlivesACrash(t *testing.T) {
	d, s := fresh(t)
	one, e := ballot(1, 0), sample(7)
	wantErr(t, "Accept", s.Accept(one, at(0, e)), api.OK)
	wantErr(t, "Crash", d.Crash(0), api.OK)
	wantErr(t, "Restart", d.Restart(), api.OK)
	s = opened(t, d)
	if s.Promised() != one {
		t.Errorf("promised is %v", s.Promised())
	}
	if x, is := s.Accepted(0); !is || !sameSlotted(x, with(0, one, e)) {
		t.Errorf("accepted is %v, %v", x, is)
	}
}

func TestExampleClash(t *testing.T) {
	_, s := fresh(t)
	wantErr(t, "Choose of e", s.Choose(at(0, sample(7))), api.OK)
	wantErr(t, "Choose of f", s.Choose(at(0, sample(8))), api.ErrClash)
}
