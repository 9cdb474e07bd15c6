package snap_test

import (
	"slices"
	"testing"

	"orchard/api"
	"orchard/snap"
)

// TestChapterExamples: the examples of the chapter, as they stand there.
func TestChapterExamples(t *testing.T) {
	zeros := make([]byte, 155)
	wantBytes(t, "Marshal of the zero state", formOf(t, api.Snap{}), zeros[:154])
	s, err := snap.Unmarshal(zeros[:154])
	wantErr(t, "Unmarshal of 154 bytes of 0", err, api.OK)
	wantSame(t, "Unmarshal of 154 bytes of 0", s, api.Snap{})
	wantUnmarshalErr(t, "153 bytes of 0", zeros[:153], api.ErrEnds)
	wantUnmarshalErr(t, "155 bytes of 0", zeros, api.ErrMore)
	s = api.Snap{}
	s.Starts[1] = 2
	wantErr(t, "Starts 2 of site 1 and Vector 0", snap.Check(s), api.ErrSnap)
	if l := snap.Differ(api.Snap{}, api.Snap{Clock: 1}); !slices.Equal(l, []string{"Clock"}) {
		t.Error("Differ of the zero state and one with Clock 1:", l)
	}
}
