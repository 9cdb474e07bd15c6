package oplog_test

import (
	"slices"
	"testing"

	"orchard/api"
	"orchard/oplog"
	"orchard/tree"
)

// P13.4: Frontier, Len, Ops, Tree, Base, Clone.

func TestFrontierAndLen(t *testing.T) {
	x := newOne(t)
	want := func(what string, frontier int64, n int) {
		t.Helper()
		if x.Frontier() != frontier || x.Len() != n {
			t.Errorf("%s: Frontier %d, Len %d, want %d, %d", what, x.Frontier(), x.Len(), frontier, n)
		}
	}
	want("New", 0, 0)
	add(t, "two, one of which is not taken", x, aMake(1, 0, root, "a"), aMove(3, 0, a, b, "a"))
	want("two", 0, 2)
	add(t, "one between them", x, aMake(2, 0, root, "b"))
	want("three", 0, 3)
	cut(t, x, 2)
	want("cut", 2, 1)
	cut(t, x, 1<<32)
	want("cut of all", 1<<32, 0)
	x = made(t, some(), 7, aMove(8, 0, a, root, "a"), aMove(9, 0, a, b, "a"))
	want("From", 7, 2)
}

// TestOps: by stamps, all fields as they came, each with whether it is taken.
func TestOps(t *testing.T) {
	x := newOne(t)
	if l := opsOf(x); l != nil {
		t.Error("New has", l)
	}
	falling := ab()
	slices.Reverse(falling)
	add(t, "falling", x, falling...)
	var want []told
	for _, op := range ab() {
		// Only b under a is not taken: a is under b by then.
		want = append(want, told{op, op.Stamp != at(3, 1)})
	}
	if got := opsOf(x); !slices.Equal(got, want) {
		t.Errorf("Ops:\n%+v, want\n%+v", got, want)
	}
	cut(t, x, 3)
	if got := opsOf(x); !slices.Equal(got, want[5:]) {
		t.Errorf("behind a cut: Ops:\n%+v, want\n%+v", got, want[5:])
	}
}

// TestOpsBrokenOff: at any point, and gone through again.
func TestOpsBrokenOff(t *testing.T) {
	x := grown(t, ab()...)
	want := opsOf(x)
	ops := x.Ops()
	for many := range len(want) + 2 {
		var got []told
		for op, taken := range ops {
			got = append(got, told{op, taken})
			if len(got) >= many {
				break
			}
		}
		if n := min(len(want), max(1, many)); !slices.Equal(got, want[:n]) {
			t.Errorf("broken off behind %d: %+v", n, got)
		}
	}
	for range 2 {
		var got []told
		for op, taken := range ops {
			got = append(got, told{op, taken})
		}
		if !slices.Equal(got, want) {
			t.Errorf("gone through again: %+v", got)
		}
	}
	calls := 0
	ops(func(api.Op, bool) bool {
		calls++
		return false
	})
	if calls != 1 {
		t.Error("an iterator that is told to stop calls", calls, "times")
	}
}

func TestTree(t *testing.T) {
	x := grown(t, ab()...)
	want := []api.TreeNode{node(a, root, "c"), node(b, root, "b", attr("k", "w"))}
	y := x.Tree()
	wantNodes(t, "Tree", y.Nodes(), want)
	if y.Len() != 4 || !y.Below(a, root) || !tree.Same(y.Nodes(), want) {
		t.Error("a tree that is not whole: Len", y.Len())
	}
	if n, is := y.Lookup(root, "c"); n != a || !is {
		t.Error("Lookup of c", n, is)
	}
	// Of its own: what is done in it is not done in the log, nor the other way.
	if _, ok := y.Do(aMove(9, 0, a, b, "in the tree alone")); !ok {
		t.Error("an operation in the tree is not taken")
	}
	wantTree(t, "the log's", x, want...)
	z := x.Tree()
	add(t, "in the log alone", x, aMove(9, 0, b, a, "b"))
	wantNodes(t, "a tree of before", z.Nodes(), want)
	if x.Tree() == x.Tree() {
		t.Error("one tree is told twice")
	}
}

func TestBase(t *testing.T) {
	x := newOne(t)
	wantBase(t, "New", x)
	add(t, "nothing of this is the base's", x, ab()...)
	wantBase(t, "above the frontier", x)
	cut(t, x, 3)
	wantBase(t, "cut", x, node(a, b, "a", attr("k", "v")), node(b, root, "b"))
	add(t, "above the cut", x, aMake(7, 0, root, "c"))
	wantBase(t, "above the cut", x, node(a, b, "a", attr("k", "v")), node(b, root, "b"))
	if y, err := tree.From(x.Base()); err != api.OK || !tree.Same(y.Nodes(), x.Base()) {
		t.Error("tree.From of Base: error", err)
	}
}

// TestClone: it has all of the same, and goes its own way, whichever of the two is changed.
func TestClone(t *testing.T) {
	changes := map[string]func(l *oplog.Log){
		"an Add ahead of all": func(l *oplog.Log) { l.Add(anAttr(4, 5, root, "k", "new")) },
		"an Add behind all":   func(l *oplog.Log) { l.Add(aMove(9, 5, a, b, "new")) },
		"an Add of many":      func(l *oplog.Log) { l.Add(aMove(9, 5, a, b, "new"), aMove(4, 5, b, a, "new"), aMake(5, 5, a, "new")) },
		"a Cut at once":       func(l *oplog.Log) { l.Cut(3) },
		"a Cut in the midst":  func(l *oplog.Log) { l.Cut(4) },
		"a Cut of all":        func(l *oplog.Log) { l.Cut(latest) },
		"a Cut, and an Add": func(l *oplog.Log) {
			l.Cut(4)
			l.Add(anAttr(5, 0, b, "k", "new"), aMake(5, 5, a, "new"))
		},
	}
	for what, change := range changes {
		x := grown(t, ab()...)
		cut(t, x, 3)
		add(t, "not the first Add", x, anAttr(5, 4, b, "k", "x"))
		before := faceOf(x)
		c := x.Clone()
		wantFace(t, "Clone", c, before)
		change(c)
		wantFace(t, what+" of the clone: the log", x, before)
		d := x.Clone()
		change(x)
		wantFace(t, what+" of the log: its clone", d, before)
		wantFace(t, what+": both come to the same", x, faceOf(c))
	}
}

// TestClonesOfClones: each goes its own way from where it was made.
func TestClonesOfClones(t *testing.T) {
	x := newOne(t)
	var l []face
	for i, op := range ab() {
		y := x.Clone()
		add(t, "one more", y, op)
		l = append(l, faceOf(x))
		wantModel(t, "the new one", y, modelOf(nil, 0, ab()[:i+1]...))
		wantFace(t, "the one of before", x, l[i])
		x = y
	}
}
