package tree_test

import (
	"fmt"
	"testing"

	"orchard/api"
	"orchard/tree"
)

// What follows: P12.5 to P12.7.

// wantATree is P12.5, told by Nodes, and by Node and Below alone.
func wantATree(t *testing.T, what string, x *tree.Tree) {
	t.Helper()
	parents := map[int64]int64{root: 0, trash: 0}
	for _, n := range x.Nodes() {
		if _, twice := parents[n.Node]; twice && n.Node > trash {
			t.Fatalf("%s: the node %d is told twice", what, n.Node)
		}
		parents[n.Node] = n.Parent
	}
	if len(parents) != x.Len() {
		t.Fatalf("%s: Nodes tells %d, Len %d", what, len(parents), x.Len())
	}
	under := 0
	for n, parent := range parents {
		if n <= trash {
			under += len(x.Children(n))
			continue
		}
		if _, there := parents[parent]; !there {
			t.Fatalf("%s: the parent %d of %d is not there", what, parent, n)
		}
		if x.Below(n, root) == x.Below(n, trash) {
			t.Fatalf("%s: the node %d is below the root: %v, and below the trash: %v", what, n, x.Below(n, root), x.Below(n, trash))
		}
		for _, c := range x.Children(n) {
			under++
			if parents[c.Node] != n || x.Below(n, c.Node) {
				t.Fatalf("%s: %d stands under %d, whose parent is %d", what, c.Node, n, parents[c.Node])
			}
		}
		up := n
		for range parents {
			up = parents[up]
		}
		if up != 0 {
			t.Fatalf("%s: the node %d comes neither to the root nor to the trash", what, n)
		}
	}
	if under != len(parents)-2 || len(walked(x, root))+len(walked(x, trash)) != len(parents) {
		t.Fatalf("%s: %d nodes stand under others, of %d", what, under, len(parents))
	}
}

// TestWhateverIsDoneItIsATree: P12.5, among few nodes, so that many moves would make rings.
func TestWhateverIsDoneItIsATree(t *testing.T) {
	refused := 0
	for seed := range uint64(60) {
		s := source(seed)
		x := newOne(t)
		for n := int64(3); n < 12; n++ {
			wantDo(t, "a make", x, aMake(n, 1+int64(s.below(int(n-1))), "a"))
		}
		var last tree.Undo
		for i := range 120 {
			op := aMove(3+int64(s.below(9)), 1+int64(s.below(11)), oneOf(&s, []string{"a", "b"}))
			if u, ok := x.Do(op); ok {
				last = u
			} else {
				refused++
			}
			if s.below(5) == 0 {
				x.Back(last)
			}
			wantATree(t, fmt.Sprintf("seed %d, move %d", seed, i), x)
		}
	}
	if refused < 500 {
		t.Error("only", refused, "moves are not taken")
	}
}

// TestEveryMoveOfASmallTree: P12.5, and P12.6, from every tree of four nodes by every move and every two of them.
func TestEveryMoveOfASmallTree(t *testing.T) {
	var moves []api.Op
	for n := int64(3); n <= 6; n++ {
		for parent := int64(1); parent <= 6; parent++ {
			moves = append(moves, aMove(n, parent, "b"))
		}
	}
	for shape := range 6 * 6 * 6 * 6 {
		var l []api.TreeNode
		for n, k := int64(3), shape; n <= 6; n, k = n+1, k/6 {
			l = append(l, node(n, 1+int64(k%6), "a"))
		}
		x, err := tree.From(l)
		if err != api.OK {
			continue
		}
		for _, first := range moves {
			u, _ := x.Do(first)
			between := x.Nodes()
			for _, second := range moves {
				v, _ := x.Do(second)
				if !isTree(x.Nodes()) {
					t.Fatalf("behind %s and %s: %+v", tell(first), tell(second), x.Nodes())
				}
				if err := x.Back(v); err != api.OK || !alike(x.Nodes(), between) {
					t.Fatalf("Back of %s: error %d, %+v", tell(second), err, x.Nodes())
				}
			}
			if err := x.Back(u); err != api.OK || !alike(x.Nodes(), l) {
				t.Fatalf("Back of %s: error %d, %+v", tell(first), err, x.Nodes())
			}
		}
	}
}

// TestManyTakenBackInTurn: P12.6, the last one first, all or some of them, and then others are done.
func TestManyTakenBackInTurn(t *testing.T) {
	for seed := range uint64(40) {
		s := source(seed)
		d := begin(t, &s)
		for range 4 {
			for range 120 {
				d.do(t, "many", s.op())
			}
			for left := s.below(len(d.undos) + 1); len(d.undos) > left; {
				d.back(t, "in turn")
				wantNodes(t, fmt.Sprintf("seed %d: %d are left", seed, len(d.undos)), d.x, d.m.nodes())
			}
			wantFace(t, "some are taken back", d.x, d.m)
			wantATree(t, "some are taken back", d.x)
		}
		for len(d.undos) > 0 {
			d.back(t, "all")
		}
		wantFace(t, "all are taken back", d.x, newModel())
		if t.Failed() {
			t.FailNow()
		}
	}
}

// TestThereAndBack: P12.7, for a tree, its clone and From of its Nodes, over which the same operations go on.
func TestThereAndBack(t *testing.T) {
	for seed := range uint64(40) {
		s := source(seed)
		x := newOne(t)
		for range 60 {
			x.Do(s.op())
		}
		l := x.Nodes()
		y := made(t, l)
		wantNodes(t, "From of Nodes", y, l)
		if !tree.Same(y.Nodes(), l) {
			t.Error("From of Nodes is not the Same")
		}
		c := x.Clone()
		for i := range 80 {
			op := s.op()
			_, one := x.Do(op)
			_, two := y.Do(op)
			_, three := c.Do(op)
			what := fmt.Sprintf("seed %d, operation %d, %s", seed, i, tell(op))
			if one != two || one != three {
				t.Fatalf("%s: taken: %v, %v, %v", what, one, two, three)
			}
			wantNodes(t, what, y, x.Nodes())
			wantNodes(t, what, c, x.Nodes())
		}
		wantFace(t, "at the end", x, modelOf(x.Nodes()))
		wantFace(t, "at the end", y, modelOf(x.Nodes()))
		wantFace(t, "at the end", c, modelOf(x.Nodes()))
	}
}

// TestBackBehindThereAndBack: what is done to From of Nodes, and to a clone, is taken back to these nodes.
func TestBackBehindThereAndBack(t *testing.T) {
	for _, x := range []*tree.Tree{made(t, some()), made(t, some()).Clone()} {
		var undos []tree.Undo
		for _, op := range eachKind() {
			if u, ok := x.Do(op); ok {
				undos = append(undos, u)
			}
		}
		if len(undos) < 12 {
			t.Error("only", len(undos), "are done")
		}
		for i := len(undos) - 1; i >= 0; i-- {
			wantErr(t, "Back", x.Back(undos[i]), api.OK)
		}
		wantFace(t, "all are taken back", x, modelOf(some()))
	}
}
