package tree_test

import (
	"slices"
	"testing"

	"orchard/api"
)

// P12.3: Node, Children, Lookup, Attr, Below, Nodes, Walk, Len.

func TestTellANewTree(t *testing.T) {
	x := newOne(t)
	wantNode(t, "the root", x, node(root, 0, ""))
	wantNode(t, "the trash", x, node(trash, 0, ""))
	if l := x.Nodes(); len(l) != 0 || x.Len() != 2 {
		t.Error("Nodes", l, "Len", x.Len())
	}
	wantBelow(t, "new", x, root, trash, false)
	wantBelow(t, "new", x, trash, root, false)
	wantWalk(t, "new", x, root, step{0, root})
	wantWalk(t, "new", x, trash, step{0, trash})
	wantFace(t, "new", x, newModel())
}

func TestTellSome(t *testing.T) {
	x := made(t, some())
	wantNodes(t, "some", x, some())
	for _, n := range some() {
		wantNode(t, "some", x, n)
	}
	if x.Len() != len(some()) {
		t.Error("Len", x.Len())
	}
	wantFace(t, "some", x, modelOf(some()))
}

func TestNodesThatAreNotThere(t *testing.T) {
	m := modelOf(some())
	x := made(t, some())
	for _, n := range numbers() {
		if m.has(n) {
			continue
		}
		wantNoNode(t, "not there", x, n)
		wantChildren(t, "not there", x, n)
		wantWalk(t, "not there", x, n)
		wantLookup(t, "not there", x, n, "a", 0)
		wantLookup(t, "not there", x, n, "", 0)
		wantAttr(t, "not there", x, n, "k", "")
		for _, other := range numbers() {
			wantBelow(t, "not there", x, n, other, false)
			wantBelow(t, "not there", x, other, n, false)
		}
	}
}

// TestNodesTellsTheRootOnlyWithAttributes, and the trash.
func TestNodesTellsTheRootOnlyWithAttributes(t *testing.T) {
	x := grown(t, aMake(5, trash, "a"))
	wantNodes(t, "neither", x, []api.TreeNode{node(5, trash, "a")})
	wantDo(t, "the trash", x, anAttr(trash, "k", "v"))
	wantNodes(t, "the trash", x, []api.TreeNode{node(trash, 0, "", attr("k", "v")), node(5, trash, "a")})
	wantDo(t, "the root", x, anAttr(root, "k", "w"))
	wantNodes(t, "both", x, []api.TreeNode{node(root, 0, "", attr("k", "w")), node(trash, 0, "", attr("k", "v")), node(5, trash, "a")})
	wantDo(t, "the trash", x, anAttr(trash, "k", ""))
	wantNodes(t, "the root", x, []api.TreeNode{node(root, 0, "", attr("k", "w")), node(5, trash, "a")})
	wantDo(t, "the root", x, anAttr(root, "k", ""))
	wantNodes(t, "neither, again", x, []api.TreeNode{node(5, trash, "a")})
	if x.Len() != 3 {
		t.Error("Len", x.Len())
	}
	// Without attributes, but with a node under it that has some.
	wantDo(t, "another one", x, anAttr(5, "k", "v"))
	wantNodes(t, "neither, again", x, []api.TreeNode{node(5, trash, "a", attr("k", "v"))})
}

// TestOrders: numbers, names and keys come as numbers and as bytes do, in whatever order they were done.
func TestOrders(t *testing.T) {
	texts := []string{"\x00", "\x00a", " ", "A", "AB", "B", "a", "a ", "a.", "aa", "ab", "b", "ä", "日", "\xff", "\xff\xff"}
	for seed := range source(20) {
		x, s := newOne(t), seed
		var want []api.Child
		var attrs []api.Attr
		n := int64(100)
		for _, name := range texts {
			// Three with each name; their numbers neither rise nor fall with the names.
			for _, k := range []int64{n % 7 * 10, n%7*10 + 200, n%7*10 + 1<<40} {
				want = append(want, api.Child{Name: name, Node: n + k})
			}
			attrs = append(attrs, attr(name, "of "+name))
			n++
		}
		for _, c := range shuffled(&s, want) {
			wantDo(t, "in any order", x, aMake(c.Node, root, c.Name))
		}
		for _, a := range shuffled(&s, attrs) {
			wantDo(t, "in any order", x, anAttr(root, a.Key, a.Value))
		}
		wantChildren(t, "by name, then by number", x, root, want...)
		wantNode(t, "by key", x, node(root, 0, "", attrs...))
		told := x.Nodes()
		if !slices.IsSortedFunc(told, func(a, b api.TreeNode) int { return int(a.Node - b.Node) }) || len(told) != len(want)+1 {
			t.Error("Nodes are not told by number")
		}
		steps := []step{{0, root}}
		for _, c := range want {
			steps = append(steps, step{1, c.Node})
		}
		wantWalk(t, "in the order of Children", x, root, steps...)
	}
}

func TestLookup(t *testing.T) {
	x := made(t, some())
	wantLookup(t, "two with one name", x, root, "a", 3)
	wantLookup(t, "two with one name", x, 5, "b", 6)
	wantLookup(t, "one", x, 5, "a", 7)
	wantLookup(t, "one, with a greater number than its parent", x, 9, "b", 4)
	wantLookup(t, "two under the trash", x, trash, "a", 16)
	wantLookup(t, "a long name", x, root, long(text), most)
	wantLookup(t, "one that stands deeper", x, root, "c", 0)
	wantLookup(t, "under one without nodes under it", x, 3, "a", 0)
	for _, name := range append(badNames(), "A", "z", "ab", "Za", long(text-1)) {
		wantLookup(t, "none", x, root, name, 0)
	}
}

func TestAttr(t *testing.T) {
	x := made(t, some())
	wantAttr(t, "of the root", x, root, "a", "of the root")
	wantAttr(t, "of the trash", x, trash, "k", "of the trash")
	wantAttr(t, "of a node", x, 5, "A", "1")
	wantAttr(t, "of a node", x, 5, "a", "2")
	wantAttr(t, "of a node", x, 5, "aa", "3")
	wantAttr(t, "a long one", x, 9, long(text), long(text))
	wantAttr(t, "of another node", x, 5, "k", "")
	wantAttr(t, "of a node without any", x, 3, "k", "")
	for _, key := range append(longTexts(), "", "AA", "aaa", "2", long(text-1)) {
		wantAttr(t, "none", x, 5, key, "")
	}
}

func TestBelow(t *testing.T) {
	x := made(t, some())
	for _, c := range []struct {
		n     int64
		above []int64
	}{
		{root, nil}, {trash, nil}, {3, []int64{root}}, {4, []int64{9, 6, 5, root}}, {5, []int64{root}}, {6, []int64{5, root}}, {9, []int64{6, 5, root}},
		{16, []int64{trash}}, {17, []int64{16, trash}}, {most - 1, []int64{most, root}}, {most, []int64{root}},
	} {
		for _, n := range some() {
			wantBelow(t, "some", x, c.n, n.Node, n.Node == c.n || slices.Contains(c.above, n.Node))
		}
	}
}

func TestWalk(t *testing.T) {
	x := made(t, some())
	wantWalk(t, "the root", x, root, step{0, root}, step{1, 1 << 50}, step{1, 3}, step{1, 5}, step{2, 7}, step{2, 6}, step{3, 9}, step{4, 4}, step{2, 8}, step{1, most}, step{2, most - 1})
	wantWalk(t, "the trash", x, trash, step{0, trash}, step{1, 16}, step{2, 17}, step{1, 18})
	wantWalk(t, "from the midst on", x, 6, step{0, 6}, step{1, 9}, step{2, 4})
	wantWalk(t, "one with nothing below it", x, 8, step{0, 8})
}

// TestWalkIsLeftAndDoneAgain: at any point, several times.
func TestWalkIsLeftAndDoneAgain(t *testing.T) {
	walk, all := made(t, some()).Walk(root), walked(made(t, some()), root)
	for n := 1; n <= len(all); n++ {
		for range 2 {
			var got []step
			for deep, k := range walk {
				got = append(got, step{deep, k})
				if len(got) == n {
					break
				}
			}
			if !slices.Equal(got, all[:n]) {
				t.Errorf("a walk that is left at %d: %v, want %v", n, got, all[:n])
			}
		}
	}
	many := 0
	for range walk {
		for range walk {
			many++
		}
	}
	if many != len(all)*len(all) {
		t.Errorf("a walk within a walk: %d of %d", many, len(all)*len(all))
	}
}

func TestLen(t *testing.T) {
	x := newOne(t)
	var undos int
	for n := int64(3); n < 100; n++ {
		wantDo(t, "a make", x, aMake(n, max(root, n/2), "a"))
		wantDo(t, "a move", x, aMove(n, trash, "b"))
		wantDo(t, "an attribute", x, anAttr(n, "k", "v"))
		x.Do(aMake(n, root, "a"))
		if undos++; x.Len() != 2+undos || len(x.Nodes()) != undos {
			t.Fatal("Len", x.Len(), "Nodes", len(x.Nodes()), "behind", undos, "makes")
		}
	}
}
