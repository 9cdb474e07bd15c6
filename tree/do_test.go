package tree_test

import (
	"testing"

	"orchard/api"
)

// P12.2: Do.

func TestDoMake(t *testing.T) {
	x := newOne(t)
	wantDo(t, "a make", x, aMake(5, root, "a"))
	wantNodes(t, "a make", x, []api.TreeNode{node(5, root, "a")})
	wantDo(t, "a make", x, aMake(3, 5, "b"))
	wantDo(t, "a make", x, aMake(4, trash, long(text)))
	wantDo(t, "a make", x, aMake(most, 3, "\x00"))
	want := []api.TreeNode{node(3, 5, "b"), node(4, trash, long(text)), node(5, root, "a"), node(most, 3, "\x00")}
	wantNodes(t, "makes", x, want)
	wantFace(t, "makes", x, modelOf(want))
}

// TestDoMakeWithoutAttributes: whatever stands in its Key and Value, and whatever a node of that number had ahead.
func TestDoMakeWithoutAttributes(t *testing.T) {
	x := newOne(t)
	op := aMake(5, root, "a")
	op.Key, op.Value = "k", "v"
	u := wantDo(t, "a make with a key", x, op)
	wantNode(t, "a make with a key", x, node(5, root, "a"))
	wantAttr(t, "a make with a key", x, 5, "k", "")
	v := wantDo(t, "an attribute", x, anAttr(5, "k", "v"))
	w := wantDo(t, "a node under it", x, aMake(6, 5, "b"))
	wantErr(t, "Back", x.Back(w), api.OK)
	wantErr(t, "Back", x.Back(v), api.OK)
	wantErr(t, "Back", x.Back(u), api.OK)
	wantDo(t, "made again", x, aMake(5, trash, "c"))
	wantFace(t, "made again", x, modelOf([]api.TreeNode{node(5, trash, "c")}))
}

func TestDoMove(t *testing.T) {
	x, m := made(t, some()), modelOf(some())
	for _, op := range []api.Op{
		aMove(5, root, "b"), aMove(5, trash, "b"), aMove(16, root, "a"), aMove(5, 17, "a"), aMove(6, root, "a"), aMove(4, 6, "b"), aMove(9, 4, "b"), aMove(7, 5, "a"), aMove(7, 5, "a"),
		aMove(8, most, "b"), aMove(most, 8, "b"), aMove(most, trash, "b"), aMove(3, 5, "a"), aMove(1<<50, 3, long(text)), aMove(16, 1<<50, "a"), aMove(16, trash, "a"), aMove(18, 16, "."+long(text-1)),
	} {
		n, _ := m.node(op.Node)
		var ok bool
		if m, ok = m.do(op); !ok {
			wantNotDone(t, "moves", x, op)
			continue
		}
		wantDo(t, "moves", x, op)
		wantNode(t, "its attributes stay", x, node(op.Node, op.Parent, op.Name, n.Attrs...))
		wantFace(t, "moves: "+tell(op), x, m)
	}
}

// TestDoMoveTakesAllBelowAlong.
func TestDoMoveTakesAllBelowAlong(t *testing.T) {
	x := grown(t, aMake(5, root, "a"), aMake(6, 5, "b"), aMake(7, 6, "c"), anAttr(7, "k", "v"), aMake(8, root, "d"))
	wantDo(t, "a move", x, aMove(5, 8, "e"))
	wantNodes(t, "a move", x, []api.TreeNode{node(5, 8, "e"), node(6, 5, "b"), node(7, 6, "c", attr("k", "v")), node(8, root, "d")})
	wantChildren(t, "where it stood", x, root, api.Child{Name: "d", Node: 8})
	wantLookup(t, "where it stood", x, root, "a", 0)
	wantLookup(t, "where it stands", x, 8, "e", 5)
	wantWalk(t, "all below it", x, 8, step{0, 8}, step{1, 5}, step{2, 6}, step{3, 7})
	wantDo(t, "renamed", x, aMove(5, 8, "f"))
	wantLookup(t, "its old name", x, 8, "e", 0)
	wantLookup(t, "its new name", x, 8, "f", 5)
	wantChildren(t, "renamed", x, 8, api.Child{Name: "f", Node: 5})
}

func TestDoMoveToWhereItStands(t *testing.T) {
	x := grown(t, aMake(5, root, "a"), aMake(6, root, "a"))
	before := x.Nodes()
	u := wantDo(t, "where it stands", x, aMove(5, root, "a"))
	wantNodes(t, "where it stands", x, before)
	wantChildren(t, "where it stands", x, root, api.Child{Name: "a", Node: 5}, api.Child{Name: "a", Node: 6})
	wantErr(t, "Back", x.Back(u), api.OK)
	wantFace(t, "where it stands, taken back", x, modelOf(before))
}

// TestDoMoveAmongNodesWithTheSameName: the least number is found, whichever go and come.
func TestDoMoveAmongNodesWithTheSameName(t *testing.T) {
	x := grown(t, aMake(7, root, "a"), aMake(5, root, "a"), aMake(9, root, "a"), aMake(6, root, "b"), aMake(8, trash, "a"))
	wantLookup(t, "three", x, root, "a", 5)
	wantDo(t, "the least one goes", x, aMove(5, trash, "a"))
	wantLookup(t, "the least one goes", x, root, "a", 7)
	wantLookup(t, "the least one comes", x, trash, "a", 5)
	wantDo(t, "one in the midst comes", x, aMove(8, root, "a"))
	wantChildren(t, "one in the midst comes", x, root, api.Child{Name: "a", Node: 7}, api.Child{Name: "a", Node: 8}, api.Child{Name: "a", Node: 9}, api.Child{Name: "b", Node: 6})
	wantDo(t, "another one is renamed", x, aMove(6, root, "a"))
	wantLookup(t, "another one is renamed", x, root, "a", 6)
	wantLookup(t, "another one is renamed", x, root, "b", 0)
	wantDo(t, "the greatest one goes", x, aMove(9, 6, "a"))
	wantDo(t, "one in the midst goes", x, aMove(7, 6, "a"))
	wantChildren(t, "two are left", x, root, api.Child{Name: "a", Node: 6}, api.Child{Name: "a", Node: 8})
	wantDo(t, "one is left", x, aMove(6, trash, "a"))
	wantDo(t, "none is left", x, aMove(8, trash, "a"))
	wantChildren(t, "none is left", x, root)
	wantLookup(t, "none is left", x, root, "a", 0)
}

func TestDoAttr(t *testing.T) {
	for _, n := range []int64{root, trash, 5, most} {
		x := grown(t, aMake(5, root, "a"), aMake(most, trash, "b"))
		before, _ := x.Node(n)
		with := func(attrs ...api.Attr) api.TreeNode { return node(n, before.Parent, before.Name, attrs...) }
		wantDo(t, "a value", x, anAttr(n, "k", "v"))
		wantNode(t, "a value", x, with(attr("k", "v")))
		wantDo(t, "another value", x, anAttr(n, "k", "w"))
		wantNode(t, "another value", x, with(attr("k", "w")))
		wantDo(t, "the same value", x, anAttr(n, "k", "w"))
		wantNode(t, "the same value", x, with(attr("k", "w")))
		wantDo(t, "another key", x, anAttr(n, "K", long(text)))
		wantDo(t, "another key", x, anAttr(n, long(text), "/"))
		wantNode(t, "three", x, with(attr("K", long(text)), attr("k", "w"), attr(long(text), "/")))
		wantDo(t, "none", x, anAttr(n, "k", ""))
		wantNode(t, "two", x, with(attr("K", long(text)), attr(long(text), "/")))
		wantAttr(t, "none", x, n, "k", "")
		wantDo(t, "none where there is none", x, anAttr(n, "k", ""))
		wantDo(t, "none where there is none", x, anAttr(n, "other", ""))
		wantNode(t, "two", x, with(attr("K", long(text)), attr(long(text), "/")))
		wantDo(t, "a value again", x, anAttr(n, "k", "x"))
		wantAttr(t, "a value again", x, n, "k", "x")
		if x.Len() != 4 {
			t.Error("Len", x.Len())
		}
	}
}

// TestDoAttrOfOneNode: others with the same key stay as they are.
func TestDoAttrOfOneNode(t *testing.T) {
	x, m := made(t, some()), modelOf(some())
	for _, op := range []api.Op{anAttr(4, "k", "w"), anAttr(trash, "k", ""), anAttr(root, "k", "v"), anAttr(5, "aa", ""), anAttr(5, "k", "v"), anAttr(9, long(text), ""), anAttr(root, "a", ""), anAttr(root, "b", "")} {
		m, _ = m.do(op)
		wantDo(t, "an attribute", x, op)
		wantFace(t, tell(op), x, m)
	}
}

// TestDoOfWhatIsNotTaken: it leaves no trace; what was done last stays the last.
func TestDoOfWhatIsNotTaken(t *testing.T) {
	x := made(t, some())
	u := wantDo(t, "the last one", x, aMake(10, root, "new"))
	m := modelOf(x.Nodes())
	for _, op := range []api.Op{aMake(10, root, "a"), aMake(11, 12, "a"), aMake(2, root, "a"), aMake(11, root, "."), aMove(root, 5, "a"), aMove(5, 9, "a"), aMove(11, root, "a"), aMove(5, root, ""), anAttr(11, "k", "v"), anAttr(5, "", "v"), {}, {Kind: 4}} {
		wantNotDone(t, "not taken", x, op)
		wantFace(t, "not taken", x, m)
	}
	wantErr(t, "Back of what was done last", x.Back(u), api.OK)
	wantFace(t, "taken back", x, modelOf(some()))
}
