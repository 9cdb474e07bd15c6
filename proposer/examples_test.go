package proposer_test

import (
	"testing"

	"orchard/api"
)

// The examples of the chapter, with each entry as x, and another one as y.
func TestExamples(t *testing.T) {
	for i := range samples() {
		x, y := sample(i), sample(i+1)
		p := newOne(t, ballot(2, 0), 0, 3)
		wantPromise(t, "slot 1", p, false, 0, slotted(1, ballot(1, 1), x))
		wantPromise(t, "nothing", p, true, 2)
		wantList(t, "Waiting", p.Waiting(), []api.Slotted{slotted(0, ballot(2, 0), api.Entry{}), slotted(1, ballot(2, 0), x)})
		if p.Next() != 2 {
			t.Errorf("Next: %d", p.Next())
		}
		wantAccepted(t, "the first one", p, false, 0, 1)
		wantAccepted(t, "the second one", p, true, 1, 1)
		wantPut(t, "y", p, 2, y)

		wantNoPromise(t, "once more", p, api.ErrTwice, 0)
		wantNotAccepted(t, "slot 9", p, api.ErrNone, 0, 9)
		wantForget(t, "slot 0 is not chosen", p, api.ErrArg, 1)
	}
}
