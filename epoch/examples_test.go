package epoch_test

import (
	"testing"

	"orchard/api"
	"orchard/epoch"
)

// The examples of the chapter, by the functions and by a machine.
func TestExamples(t *testing.T) {
	e, err := epoch.Start(0, 1)
	wantErr(t, "Start(0, 1)", err, api.OK)
	m := newOne(t, 0, 1)
	if e.Number != 0 {
		t.Error("Start(0, 1) has the number", e.Number)
	}
	for i, x := range []api.Entry{{Kind: api.EnJoin, Site: 2, Sponsor: 0}, {Kind: api.EnLeave, Site: 1}, {Kind: api.EnSealed, Site: 1, Length: 40}} {
		e, err = epoch.Apply(e, x)
		wantErr(t, told(e, x), err, api.OK)
		wantErr(t, told(e, x), m.Apply(x), api.OK)
		wantEpoch(t, "the machine's", m.Current(), e)
		if e.Number != int64(i)+1 {
			t.Errorf("%s has the number %d", told(e, x), e.Number)
		}
	}
	if e.Seals[1] != 40 || e.States != [8]int{api.SiteMember, api.SiteRetired, api.SiteMember} {
		t.Error("the last epoch is", e)
	}
	x := api.Entry{Kind: api.EnJoin, Site: 1}
	_, err = epoch.Apply(e, x)
	wantErr(t, told(e, x), err, api.ErrState)
	wantErr(t, told(e, x), m.Apply(x), api.ErrState)
}
