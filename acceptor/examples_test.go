package acceptor_test

import (
	"testing"

	"orchard/api"
)

// The examples of the chapter.
func TestExamples(t *testing.T) {
	for i := range samples() {
		e := sample(i)
		a := newOne(t)
		l, err := a.Prepare(ballot(1, 0), 0)
		wantErr(t, "Prepare(1.0, 0)", err, api.OK)
		wantList(t, "Prepare(1.0, 0)", l, nil)
		wantErr(t, "Accept(1.0, 5, e)", a.Accept(ballot(1, 0), 5, e), api.OK)
		l, err = a.Prepare(ballot(2, 1), 0)
		wantErr(t, "Prepare(2.1, 0)", err, api.OK)
		wantList(t, "Prepare(2.1, 0)", l, []api.Slotted{slotted(5, ballot(1, 0), e)})
		wantErr(t, "Accept(1.0, 6, e)", a.Accept(ballot(1, 0), 6, e), api.ErrLow)
		l, err = a.Prepare(ballot(2, 1), 6)
		wantErr(t, "Prepare(2.1, 6)", err, api.OK)
		wantList(t, "Prepare(2.1, 6)", l, nil)
	}
}
