package oplog_test

import (
	"fmt"
	"slices"
	"testing"

	"orchard/api"
	"orchard/oplog"
)

// What follows: P13.5 to P13.7.

// crossing are sets of operations that hang on each other: makes that come late, moves that would make rings, attributes.
func crossing() map[string][]api.Op {
	c := nodeOf(2, 1)
	return map[string][]api.Op{
		"two under each other": {aMake(1, 0, root, "a"), aMake(2, 0, root, "b"), aMove(3, 0, a, b, "a"), aMove(3, 1, b, a, "b"), aMove(4, 0, a, root, "c"), aMove(5, 0, b, a, "d")},
		"three in a ring":      {aMake(1, 0, root, "a"), aMake(2, 0, root, "b"), aMake(2, 1, root, "c"), aMove(3, 0, a, b, "a"), aMove(3, 1, b, c, "b"), aMove(3, 2, c, a, "c")},
		"each under the last":  {aMake(1, 0, root, "a"), aMake(2, 0, a, "b"), aMake(2, 1, b, "c"), aMove(3, 0, a, c, "a"), aMove(4, 0, c, trash, "c"), aMove(5, 0, a, c, "a")},
		"attributes":           {aMake(1, 0, root, "a"), anAttr(2, 0, a, "k", "1"), anAttr(2, 1, a, "k", ""), anAttr(3, 0, a, "k", "2"), anAttr(3, 1, a, "l", "3"), anAttr(4, 0, root, "k", "4")},
		"one time":             {aMake(1, 0, root, "a"), aMake(2, 0, root, "b"), aMove(3, 0, a, b, "0"), aMove(3, 1, b, a, "1"), aMove(3, 2, a, trash, "2"), aMove(3, 3, b, root, "3")},
	}
}

// wantATree is P13.7, by Nodes alone.
func wantATree(t *testing.T, what string, l []api.TreeNode) {
	t.Helper()
	f := newForest()
	for _, n := range l {
		if n.Node > trash && f.has(n.Node) {
			t.Fatalf("%s: the node %d is told twice", what, n.Node)
		}
		f[n.Node] = plain{parent: n.Parent}
	}
	for n := range f {
		if n > trash && !f.has(f[n].parent) {
			t.Fatalf("%s: the parent %d of %d is not there", what, f[n].parent, n)
		}
		up := n
		for range f {
			up = f[up].parent
		}
		if up != 0 {
			t.Fatalf("%s: the node %d comes neither to the root nor to the trash", what, n)
		}
	}
}

// TestInAnyOrderTheSame: P13.5, all orders, in all pieces.
func TestInAnyOrderTheSame(t *testing.T) {
	for what, ops := range crossing() {
		want := modelOf(nil, 0, ops...).face(0)
		for i, order := range orders(ops) {
			for ends := range 1 << (len(ops) - 1) {
				x := newOne(t)
				for _, piece := range pieces(order, ends) {
					add(t, what, x, piece...)
				}
				wantAlike(t, fmt.Sprintf("%s, order %d, pieces %b", what, i, ends), x, want)
				wantATree(t, what, x.Tree().Nodes())
			}
			wantAlike(t, what+", From", made(t, nil, 0, order...), want)
			if t.Failed() {
				t.FailNow()
			}
		}
	}
}

// TestInAnyOrderTheSameOnABase: P13.5, with a base and a frontier, and clones between.
func TestInAnyOrderTheSameOnABase(t *testing.T) {
	ops := []api.Op{aMove(9, 0, a, root, "x"), aMove(9, 1, b, a, "y"), aMake(10, 0, b, "z"), anAttr(11, 0, nodeOf(10, 0), "k", "v"), aMove(12, 0, a, nodeOf(10, 0), "ring")}
	want := modelOf(some(), 8, ops...).face(0)
	for _, order := range orders(ops) {
		x, y := made(t, some(), 8), made(t, some(), 8)
		for _, op := range order {
			add(t, "one by one", x, op)
			y = y.Clone()
			add(t, "one by one, in a clone of a clone", y, op)
		}
		wantAlike(t, "one by one", x, want)
		wantAlike(t, "one by one, in a clone of a clone", y, want)
		wantAlike(t, "From", made(t, some(), 8, order...), want)
	}
}

// TestInAnyOrderTheSameAtRandom: P13.5, many operations of several sites.
func TestInAnyOrderTheSameAtRandom(t *testing.T) {
	for seed := range uint64(60) {
		s := source(seed)
		d := begin(t, &s)
		for range 40 {
			d.add(t, "at random")
		}
		ops := opsAlone(d.l)
		want := faceOf(d.l)
		for range 6 {
			x := newOne(t)
			for left := shuffled(&s, ops); len(left) > 0; {
				n := min(len(left), 1+s.below(8))
				add(t, "in pieces", x, left[:n]...)
				left = left[n:]
			}
			wantAlike(t, fmt.Sprintf("seed %d", seed), x, want)
		}
		wantATree(t, "at random", want.nodes)
	}
}

// above are those of what Ops tells with times above one.
func above(l []told, time int64) []told {
	return slices.DeleteFunc(slices.Clone(l), func(x told) bool { return x.op.Stamp.Time <= time })
}

// wantSameAbove is P13.6.
func wantSameAbove(t *testing.T, what string, cut, whole *oplog.Log) {
	t.Helper()
	wantNodes(t, what+": the trees", cut.Tree().Nodes(), whole.Tree().Nodes())
	if got, want := opsOf(cut), above(opsOf(whole), cut.Frontier()); !slices.Equal(got, want) {
		t.Errorf("%s: above the cut are\n%+v, and in the whole log\n%+v", what, got, want)
	}
}

// TestCutOrNot: P13.6, a cut at each time, ahead of some of the later ones and behind the others, in each order.
func TestCutOrNot(t *testing.T) {
	for what, ops := range crossing() {
		whole := grown(t, ops...)
		for time := int64(0); time <= 6; time++ {
			var early, late []api.Op
			for _, op := range ops {
				if op.Stamp.Time <= time {
					early = append(early, op)
				} else {
					late = append(late, op)
				}
			}
			for _, order := range orders(late) {
				for n := range len(order) + 1 {
					x := newOne(t)
					add(t, what, x, order[:n]...)
					add(t, what, x, early...)
					cut(t, x, time)
					for _, op := range order[n:] {
						add(t, what, x, op)
					}
					wantSameAbove(t, fmt.Sprintf("%s, Cut(%d) behind %d later ones", what, time, n), x, whole)
					wantATree(t, what, x.Tree().Nodes())
				}
			}
			if t.Failed() {
				t.FailNow()
			}
		}
	}
}

// TestCutOrNotAtRandom: P13.6, many cuts, each of what no newcomer is at or below.
func TestCutOrNotAtRandom(t *testing.T) {
	for seed := range uint64(80) {
		s := source(seed)
		d := begin(t, &s)
		whole := newOne(t)
		for i := range 60 {
			what := fmt.Sprintf("seed %d, step %d", seed, i)
			if s.below(4) == 0 {
				cut(t, d.l, d.m.frontier+1)
				d.m = d.m.cut(d.m.frontier + 1)
			}
			if ops := d.many(); d.m.check(ops) == api.OK {
				n, m := add(t, what, d.l, ops...), add(t, what, whole, ops...)
				if n != m {
					t.Errorf("%s: %d are taken, and in the whole log %d", what, n, m)
				}
				d.m, _ = d.m.add(ops)
			}
			wantSameAbove(t, what, d.l, whole)
			wantATree(t, what, d.l.Tree().Nodes())
		}
		if t.Failed() {
			t.FailNow()
		}
	}
}

// TestNoRing: P13.7, among few nodes, so that many moves would make rings.
func TestNoRing(t *testing.T) {
	refused := 0
	for seed := range uint64(60) {
		s := source(seed)
		x := newOne(t)
		var nodes []int64
		for site := range 8 {
			add(t, "a make", x, aMake(1, site, root, "a"))
			nodes = append(nodes, nodeOf(1, site))
		}
		var moves []api.Op
		for time := int64(2); time < 42; time++ {
			moves = append(moves, aMove(time, s.below(8), oneOf(&s, nodes), oneOf(&s, append(nodes, trash)), "b"))
		}
		for _, op := range shuffled(&s, moves) {
			refused += 1 - add(t, "a move", x, op)
			wantATree(t, fmt.Sprintf("seed %d", seed), x.Tree().Nodes())
		}
		cut(t, x, 20)
		wantATree(t, "the base", x.Base())
		wantATree(t, "the tree behind a cut", x.Tree().Nodes())
	}
	if refused < 300 {
		t.Error("only", refused, "moves are not taken")
	}
}
