package oplog_test

import (
	"testing"

	"orchard/api"
	"orchard/oplog"
)

// P13.1: New and From.

func TestNew(t *testing.T) {
	l := newOne(t)
	wantFace(t, "New", l, face{})
	if n := l.Tree().Len(); n != 2 {
		t.Error("the tree of New has", n, "nodes, want the root and the trash")
	}
}

func TestLogsGoTheirOwnWays(t *testing.T) {
	x, y := newOne(t), newOne(t)
	add(t, "x", x, ab()...)
	wantFace(t, "y", y, face{})
	wantFace(t, "a third one", newOne(t), face{})
	v, w := made(t, some(), 4), made(t, some(), 4)
	add(t, "v", v, aMove(9, 0, a, trash, "x"))
	cut(t, v, 9)
	wantFace(t, "w", w, face{frontier: 4, nodes: some(), base: some()})
}

func TestFromFrontiers(t *testing.T) {
	for _, frontier := range []int64{0, 1, 2, 1 << 32, latest - 1, latest} {
		for _, base := range [][]api.TreeNode{nil, some()} {
			l := made(t, base, frontier)
			wantFace(t, "From", l, face{frontier: frontier, nodes: base, base: base})
		}
	}
	for _, frontier := range []int64{least, least + 1, -latest, -1, latest + 1, latest + 2, most - 1, most} {
		wantNoFrom(t, "a frontier that may not be", api.ErrArg, nil, frontier)
		wantNoFrom(t, "a frontier that may not be", api.ErrArg, some(), frontier, aMake(latest, 0, root, "a"))
	}
}

// noTrees are lists of nodes that tree.From refuses.
func noTrees() map[string][]api.TreeNode {
	return map[string][]api.TreeNode{
		"a number below 1":             {node(0, root, "a")},
		"one number twice":             {node(5, root, "a"), node(5, root, "a")},
		"falling numbers":              {node(6, root, "a"), node(5, root, "a")},
		"the root with a parent":       {node(root, trash, "")},
		"the trash with a name":        {node(trash, 0, "a")},
		"a parent that is not there":   {node(5, 6, "a")},
		"no name":                      {node(5, root, "")},
		"a name with a /":              {node(5, root, "a/b")},
		"a ring":                       {node(5, 6, "a"), node(6, 5, "a")},
		"a ring of one":                {node(5, 5, "a")},
		"an empty key":                 {node(5, root, "a", attr("", "v"))},
		"an empty value":               {node(5, root, "a", attr("k", ""))},
		"falling keys":                 {node(root, 0, "", attr("l", "v"), attr("k", "v"))},
		"one key twice, at the trash":  {node(trash, 0, "", attr("k", "v"), attr("k", "v"))},
		"a name that is too long":      {node(5, root, long(text+1))},
		"a value that is too long":     {node(5, root, "a", attr("k", long(text+1)))},
		"the last of many, a ring":     append(some()[:8], node(most, most, "a")),
		"behind a tree, a lone parent": append(some()[:8], node(most, 1000, "a")),
	}
}

func TestFromBases(t *testing.T) {
	for _, base := range [][]api.TreeNode{
		nil,
		{node(root, 0, "", attr("k", "v"))},
		{node(trash, 0, "", attr("k", "v"))},
		{node(3, root, "a")},
		{node(5, 6, "a"), node(6, trash, "a")},
		{node(most, root, long(text))},
		some(),
	} {
		l := made(t, base, 3)
		wantFace(t, "From", l, face{frontier: 3, nodes: base, base: base})
		if n := l.Tree().Len(); n != 2+len(base)-countGiven(base) {
			t.Error("the tree of From has", n, "nodes")
		}
	}
	bare := made(t, []api.TreeNode{node(root, 0, ""), node(trash, 0, ""), node(5, root, "a")}, 0)
	wantFace(t, "a base that tells the root and the trash without attributes", bare, face{nodes: []api.TreeNode{node(5, root, "a")}, base: []api.TreeNode{node(5, root, "a")}})
	for what, base := range noTrees() {
		wantNoFrom(t, what, api.ErrTree, base, 0)
		wantNoFrom(t, what, api.ErrTree, base, latest)
		wantNoFrom(t, what, api.ErrTree, base, 0, ab()...)
	}
}

// countGiven is how many of nodes are the root and the trash.
func countGiven(l []api.TreeNode) int {
	n := 0
	for _, x := range l {
		if x.Node <= trash {
			n++
		}
	}
	return n
}

// TestFromFaultsInTheirOrder: the frontier's, then the base's, then the operations' ones.
func TestFromFaultsInTheirOrder(t *testing.T) {
	for what, base := range noTrees() {
		for _, frontier := range []int64{-1, latest + 1} {
			wantNoFrom(t, what, api.ErrArg, base, frontier, aMove(1, 0, a, root, long(text+1)))
		}
		for _, w := range wrongs(7, 2) {
			wantNoFrom(t, what+", "+w.what, api.ErrTree, base, 3, w.op)
		}
		wantNoFrom(t, what+", and an old one", api.ErrTree, base, 3, aMake(3, 0, root, "a"))
		wantNoFrom(t, what+", and one twice", api.ErrTree, base, 3, aMake(4, 0, root, "a"), aMake(4, 0, root, "a"))
	}
}

func TestFromOperations(t *testing.T) {
	s := source(2)
	for range 30 {
		l := made(t, nil, 0, shuffled(&s, ab())...)
		wantAlike(t, "From of operations", l, faceOf(grown(t, ab()...)))
		wantRedone(t, "From of operations", l, 0)
	}
	for what, ops := range map[string][]api.Op{"nil": nil, "empty": {}} {
		l, err := oplog.From(nil, 0, ops)
		wantErr(t, what, err, api.OK)
		wantFace(t, what, l, face{})
	}
	// On a base: the guard looks at what is there.
	ops := []api.Op{
		aMake(4, 7, root, "a"),               // is there already, in the trash
		aMove(5, 0, b, a, "b"),               // a is under b
		aMove(5, 1, a, root, "free"),         // but comes away
		aMove(5, 2, b, a, "b"),               // and now it is taken
		anAttr(6, 0, nodeOf(9, 0), "k", "v"), // is not there
	}
	l := made(t, some(), 3, ops...)
	wantTaken(t, "on a base", l, at(5, 1), at(5, 2))
	wantBase(t, "on a base", l, some()...)
	want := some()
	want[3].Parent, want[3].Name = root, "free"
	want[4].Parent = a
	wantTree(t, "on a base", l, want...)
}

// TestFromAnswersAsAdd: each error, at each place of the list.
func TestFromAnswersAsAdd(t *testing.T) {
	for _, w := range wrongs(7, 2) {
		for i := range len(ab()) + 1 {
			wantNoFrom(t, w.what, w.err, nil, 0, insert(ab(), i, w.op)...)
		}
	}
	for i := range len(ab()) {
		l := insert(ab(), i, aMake(7, 7, root, "g"))
		wantNoFrom(t, "one twice", api.ErrTwice, nil, 0, append(l, aMake(7, 7, root, "g"))...)
	}
	for _, frontier := range []int64{1, 7, latest - 1, latest} {
		for _, time := range []int64{1, frontier - 1, frontier} {
			if time < 1 {
				continue
			}
			wantNoFrom(t, "an old one", api.ErrOld, some(), frontier, aMove(time, 0, a, root, "a"))
		}
		if frontier < latest {
			made(t, some(), frontier, aMove(frontier+1, 0, a, root, "a"))
			made(t, some(), frontier, aMove(latest, 7, a, root, "a"))
		}
		wantNoFrom(t, "a time above all", api.ErrArg, some(), frontier, aMove(latest+1, 0, a, root, "a"))
	}
}
