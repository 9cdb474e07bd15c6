package stamp_test

import (
	"testing"

	"orchard/api"
	"orchard/stamp"
)

// The examples of the chapter.
func TestExamples(t *testing.T) {
	if got := stamp.Compare(at(3, 1), at(3, 2)); got != -1 {
		t.Error("Compare(3.1, 3.2):", got)
	}
	if got := stamp.Node(at(1, 0)); got != 24 {
		t.Error("Node(1.0):", got)
	}
	wantOf(t, 24, at(1, 0))
	wantNoStamp(t, 23)
	wantVector(t, "Join of (1, 0) and (0, 2)", stamp.Join(api.Vector{1, 0}, api.Vector{0, 2}), api.Vector{1, 2})
	wantCheckOp(t, `a move to the name "a/b"`, api.Op{Stamp: at(2, 0), Kind: api.OpMove, Node: 24, Parent: root, Name: "a/b"}, api.ErrArg)
	wantCheckOp(t, `that move to the name "b"`, api.Op{Stamp: at(2, 0), Kind: api.OpMove, Node: 24, Parent: root, Name: "b"}, api.OK)
}
