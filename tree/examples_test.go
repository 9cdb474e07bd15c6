package tree_test

import (
	"testing"

	"orchard/api"
)

// The examples of the chapter, and the whole's second one.

func TestFirstExample(t *testing.T) {
	x := grown(t, aMake(5, 1, "a"), aMake(6, 5, "b"))
	wantNotDone(t, "5 under 6", x, aMove(5, 6, "a"))
	wantDo(t, "6 under 1", x, aMove(6, 1, "a"))
	wantLookup(t, "two of a name", x, 1, "a", 5)
}

func TestSecondExample(t *testing.T) {
	x := grown(t, aMake(5, 1, "a"))
	u := wantDo(t, "an attribute", x, anAttr(5, "k", "v"))
	wantAttr(t, "done", x, 5, "k", "v")
	wantErr(t, "Back", x.Back(u), api.OK)
	wantAttr(t, "taken back", x, 5, "k", "")
	wantErr(t, "Back once more", x.Back(u), api.ErrUndo)
}

func TestThirdExample(t *testing.T) {
	x := grown(t, aMake(5, 1, "a"), aMake(6, 5, "b"))
	wantBelow(t, "ahead of the move", x, 6, 2, false)
	wantDo(t, "5 under the trash", x, aMove(5, 2, "a"))
	wantBelow(t, "behind the move", x, 6, 2, true)
	wantNoTree(t, "a ring", []api.TreeNode{node(5, 6, "a"), node(6, 5, "b")})
}

// TestMovesUnderEachOther: whichever comes second is not taken.
func TestMovesUnderEachOther(t *testing.T) {
	ab, ba := aMove(5, 6, "a"), aMove(6, 5, "b")
	x := grown(t, aMake(5, 1, "a"), aMake(6, 1, "b"))
	u := wantDo(t, "a under b", x, ab)
	wantNotDone(t, "then b under a", x, ba)
	wantErr(t, "Back", x.Back(u), api.OK)
	wantDo(t, "b under a", x, ba)
	wantNotDone(t, "then a under b", x, ab)
}
