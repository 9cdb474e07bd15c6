package clients_test

import (
	"testing"

	"orchard/api"
)

// The examples of the chapter.
func TestExamples(t *testing.T) {
	for _, r := range replies() {
		c := newOne(t)
		wantAsk(t, "of none", c, 7, 1, api.Reply{}, api.CliNew)
		wantErr(t, "Put(7, 1, r)", c.Put(7, 1, r), api.OK)
		wantAsk(t, "the same", c, 7, 1, r, api.CliSame)
		wantAsk(t, "two above", c, 7, 3, api.Reply{}, api.CliGap)
		wantAsk(t, "another session", c, 8, 2, api.Reply{}, api.CliGap)
	}
}
