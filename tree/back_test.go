package tree_test

import (
	"testing"

	"orchard/api"
	"orchard/tree"
)

// P12.2: Back.

// eachKind are operations that some takes, each from there.
func eachKind() []api.Op {
	return []api.Op{
		aMake(10, root, "a"), aMake(10, 9, "new"), aMake(11, trash, "a"), aMake(most-2, most, "a"),
		aMove(5, trash, "a"), aMove(5, 17, "b"), aMove(5, root, "a"), aMove(3, root, "b"), aMove(8, 5, "a"), aMove(9, root, "a"), aMove(16, root, "a"), aMove(most, 9, "a"),
		anAttr(5, "a", "other"), anAttr(5, "a", "2"), anAttr(5, "a", ""), anAttr(5, "new", "v"), anAttr(5, "new", ""), anAttr(6, "k", "v"), anAttr(6, "k", ""),
		anAttr(root, "a", ""), anAttr(root, "new", "v"), anAttr(trash, "k", ""), anAttr(trash, "k", "v"),
	}
}

func TestBackOfEachKind(t *testing.T) {
	for _, op := range eachKind() {
		x := made(t, some())
		for range 3 {
			u := wantDo(t, "there", x, op)
			wantErr(t, "Back of "+tell(op), x.Back(u), api.OK)
			wantFace(t, "Back of "+tell(op), x, modelOf(some()))
			wantErr(t, "Back once more", x.Back(u), api.ErrUndo)
			wantFace(t, "Back once more", x, modelOf(some()))
		}
	}
}

// TestBackOfTwo: each behind each, taken back in turn.
func TestBackOfTwo(t *testing.T) {
	for _, first := range eachKind() {
		for _, second := range eachKind() {
			x := made(t, some())
			u := wantDo(t, "the first one", x, first)
			between := x.Nodes()
			v, ok := x.Do(second)
			if ok {
				wantErr(t, "Back of the one that another follows", x.Back(u), api.ErrUndo)
				wantErr(t, "Back of the second one", x.Back(v), api.OK)
				wantErr(t, "Back of the second one, again", x.Back(v), api.ErrUndo)
			}
			wantNodes(t, "Back of the second one", x, between)
			wantErr(t, "Back of the first one", x.Back(u), api.OK)
			wantNodes(t, "Back of the first one", x, some())
			wantErr(t, "Back of the first one, again", x.Back(u), api.ErrUndo)
			wantErr(t, "Back of the second one, at last", x.Back(v), map[bool]api.Errno{true: api.ErrUndo, false: api.OK}[ok])
			wantNodes(t, "nothing is left", x, some())
		}
	}
}

func TestBackOfTheZeroUndo(t *testing.T) {
	x := newOne(t)
	wantErr(t, "nothing was done", x.Back(tree.Undo{}), api.OK)
	wantFace(t, "nothing was done", x, newModel())
	u := wantDo(t, "a make", x, aMake(5, root, "a"))
	var zero tree.Undo
	for range 3 {
		wantErr(t, "something was done", x.Back(zero), api.OK)
		wantFace(t, "something was done", x, modelOf([]api.TreeNode{node(5, root, "a")}))
	}
	refused, ok := x.Do(aMake(5, root, "a"))
	if ok {
		t.Error("a make of a node that is there")
	}
	wantErr(t, "what Do answers with false", x.Back(refused), api.OK)
	wantErr(t, "the last one is still the last", x.Back(u), api.OK)
	wantFace(t, "taken back", x, newModel())
	wantErr(t, "all is taken back", x.Back(zero), api.OK)
}

func TestBackOfOneThatOthersFollow(t *testing.T) {
	x := newOne(t)
	var undos []tree.Undo
	for _, op := range []api.Op{aMake(5, root, "a"), anAttr(5, "k", "v"), aMake(6, 5, "b"), aMove(6, root, "a"), anAttr(6, "k", ""), aMove(6, root, "a")} {
		undos = append(undos, wantDo(t, "many", x, op))
	}
	want := x.Nodes()
	for last := len(undos) - 1; last >= 0; last-- {
		for i, u := range undos {
			if i != last {
				wantErr(t, "not the last one", x.Back(u), api.ErrUndo)
			}
		}
		wantNodes(t, "not the last one", x, want)
		wantErr(t, "the last one", x.Back(undos[last]), api.OK)
		want = x.Nodes()
	}
	wantFace(t, "all taken back", x, newModel())
	for _, u := range undos {
		wantErr(t, "all taken back", x.Back(u), api.ErrUndo)
	}
}

// TestBackOfWhatIsDoneAgain: the same operation done again has an Undo of its own; the old one is of no use.
func TestBackOfWhatIsDoneAgain(t *testing.T) {
	for _, op := range eachKind() {
		x := made(t, some())
		old := wantDo(t, "done", x, op)
		wantErr(t, "Back", x.Back(old), api.OK)
		again := wantDo(t, "done again", x, op)
		want := x.Nodes()
		wantErr(t, "the old Undo", x.Back(old), api.ErrUndo)
		wantNodes(t, "the old Undo", x, want)
		wantErr(t, "the new one", x.Back(again), api.OK)
		wantErr(t, "the old Undo, behind it", x.Back(old), api.ErrUndo)
		wantFace(t, "taken back", x, modelOf(some()))
	}
}

// TestBackInTheMidst: Dos behind a Back stand on what is left.
func TestBackInTheMidst(t *testing.T) {
	x := newOne(t)
	a := wantDo(t, "a", x, aMake(5, root, "a"))
	b := wantDo(t, "b", x, aMake(6, 5, "b"))
	wantErr(t, "Back of b", x.Back(b), api.OK)
	c := wantDo(t, "c", x, aMake(6, root, "c"))
	d := wantDo(t, "d", x, aMove(5, 6, "d"))
	wantErr(t, "Back of a, that others follow", x.Back(a), api.ErrUndo)
	wantErr(t, "Back of b, that is taken back", x.Back(b), api.ErrUndo)
	wantErr(t, "Back of c, that d follows", x.Back(c), api.ErrUndo)
	wantNodes(t, "nothing has changed", x, []api.TreeNode{node(5, 6, "d"), node(6, root, "c")})
	wantErr(t, "Back of d", x.Back(d), api.OK)
	wantErr(t, "Back of a", x.Back(a), api.ErrUndo)
	wantErr(t, "Back of c", x.Back(c), api.OK)
	wantErr(t, "Back of b", x.Back(b), api.ErrUndo)
	wantNodes(t, "a is left", x, []api.TreeNode{node(5, root, "a")})
	wantErr(t, "Back of a", x.Back(a), api.OK)
	wantFace(t, "nothing is left", x, newModel())
}

// TestBackOfAnotherTree: trees in which the same was done.
func TestBackOfAnotherTree(t *testing.T) {
	for _, op := range eachKind() {
		x, y := made(t, some()), made(t, some())
		u, v := wantDo(t, "x", x, op), wantDo(t, "y", y, op)
		want := x.Nodes()
		wantErr(t, "y's in x", x.Back(v), api.ErrUndo)
		wantErr(t, "x's in y", y.Back(u), api.ErrUndo)
		wantErr(t, "y's in one where nothing was done", made(t, some()).Back(v), api.ErrUndo)
		wantErr(t, "y's in a new one", newOne(t).Back(v), api.ErrUndo)
		wantNodes(t, "x", x, want)
		wantNodes(t, "y", y, want)
		wantErr(t, "x's in x", x.Back(u), api.OK)
		wantNodes(t, "y stays", y, want)
		wantErr(t, "x's in y, behind that", y.Back(u), api.ErrUndo)
		wantErr(t, "y's in y", y.Back(v), api.OK)
		wantFace(t, "x", x, modelOf(some()))
		wantFace(t, "y", y, modelOf(some()))
	}
}

// TestBackOfAClone: P12.4, too.
func TestBackOfAClone(t *testing.T) {
	for _, op := range eachKind() {
		x := made(t, some())
		u := wantDo(t, "ahead of the clone", x, op)
		want := x.Nodes()
		c := x.Clone()
		wantErr(t, "the tree's in its clone", c.Back(u), api.ErrUndo)
		wantErr(t, "the zero one in a clone", c.Back(tree.Undo{}), api.OK)
		wantNodes(t, "the clone", c, want)
		v := wantDo(t, "in the clone", c, aMake(12, root, "twelve"))
		wantErr(t, "the clone's in the tree", x.Back(v), api.ErrUndo)
		wantErr(t, "the tree's in its clone, with one of its own", c.Back(u), api.ErrUndo)
		wantNodes(t, "the tree", x, want)
		wantErr(t, "the tree's in the tree", x.Back(u), api.OK)
		wantErr(t, "the clone's in the clone", c.Back(v), api.OK)
		wantErr(t, "and no more", c.Back(u), api.ErrUndo)
		wantFace(t, "the tree", x, modelOf(some()))
		wantFace(t, "the clone", c, modelOf(want))
	}
}

// TestNothingToTakeBack: in a tree that From made, of nodes that others were done to.
func TestNothingToTakeBack(t *testing.T) {
	x := newOne(t)
	u := wantDo(t, "a make", x, aMake(5, root, "a"))
	y := made(t, x.Nodes())
	wantErr(t, "Back in From of Nodes", y.Back(u), api.ErrUndo)
	wantErr(t, "the zero one", y.Back(tree.Undo{}), api.OK)
	wantFace(t, "From of Nodes", y, modelOf([]api.TreeNode{node(5, root, "a")}))
}
