package snap_test

import (
	"fmt"
	"math"
	"slices"
	"testing"

	"orchard/api"
	"orchard/snap"
	"orchard/stamp"
	"orchard/tree"
)

// P14.1: which operations and nodes a state may have, and how many; P14.2 of these.

// wrongOps are operations that stamp.CheckOp refuses, with the stamp time.site, if that is not what is wrong.
func wrongOps(time int64, site int) []api.Op {
	l := []api.Op{{Stamp: at(time, site)}, {Stamp: at(time, site), Kind: 4}, {Stamp: at(time, site), Kind: -1}}
	for n := range 3 {
		for _, wrong := range []func(op *api.Op){
			func(op *api.Op) { op.Node = 0 },
			func(op *api.Op) { op.Node++; op.Parent = 3 },
			func(op *api.Op) { op.Node = mostNode + 1 },
			func(op *api.Op) { op.Parent = -1 },
			func(op *api.Op) { op.Parent, op.Name, op.Key = 4, "", "" },
			func(op *api.Op) { op.Name, op.Key = "a/b", "" },
			func(op *api.Op) { op.Name = long(text + 1) },
			func(op *api.Op) { op.Key = long(text + 1) },
			func(op *api.Op) { op.Value = long(text + 1) },
			func(op *api.Op) { op.Kind = 0 },
		} {
			op := anOp(n, time, site)
			wrong(&op)
			l = append(l, op)
		}
	}
	return l
}

// withLog is a state with a log, and withKept one that keeps operations of a site.
func withLog(frontier int64, l ...api.Op) api.Snap { return api.Snap{Frontier: frontier, Log: l} }

func withKept(site int, l ...api.Op) api.Snap {
	return bare(func(s *api.Snap) { keep(s, site, l) })
}

func TestWrongOps(t *testing.T) {
	for i := range 4 {
		for _, op := range wrongOps(int64(30+i), 5) {
			if stamp.CheckOp(op) == api.OK {
				t.Fatal("an operation that may be:", op)
			}
			l := opsOf(5, 4, 30)
			l[i] = op
			wantMayNot(t, fmt.Sprint("the log's operation ", i, ": ", tell(op)), withLog(20, l...))
			wantMayNot(t, fmt.Sprint("the kept operation ", i, ": ", tell(op)), withKept(5, l...))
		}
	}
}

// TestWrongStamps: those that rise, but may not be.
func TestWrongStamps(t *testing.T) {
	first, last := anAttr(0, 3, root, "k", "v"), anAttr(latest+1, 3, root, "k", "v")
	l := []api.Op{first, anAttr(7, 3, root, "k", "v"), last}
	wantMayBe(t, "the log without them", withLog(0, l[1]))
	wantMayBe(t, "the kept ones without them", withKept(3, l[1]))
	for _, wrong := range [][]api.Op{l[:2], l[1:], l, l[:1], l[2:]} {
		wantMayNot(t, "a log with a wrong time", withLog(0, wrong...))
		wantMayNot(t, "kept ones with a wrong time", withKept(3, wrong...))
	}
	for _, site := range []int{math.MinInt, -1, sites, math.MaxInt} {
		wantMayNot(t, "a log with a wrong site", withLog(0, anAttr(7, site, root, "k", "v")))
		wantMayNot(t, "kept ones with a wrong site", withKept(3, anAttr(7, site, root, "k", "v")))
	}
}

func TestLogAndFrontier(t *testing.T) {
	for _, frontier := range []int64{0, 1, 2, 20, latest - 2, latest - 1} {
		for off := int64(-2); off <= 2; off++ {
			time := frontier + off
			ok := off > 0 && time <= latest
			for n := range 3 {
				wantState(t, fmt.Sprint("Frontier ", frontier, ", an operation at ", time), withLog(frontier, anOp(n, time, n)), ok)
			}
			for site := range sites {
				s := withLog(frontier, anOp(0, time, site), anOp(1, latest, 7))
				wantState(t, fmt.Sprint("Frontier ", frontier, ", two operations, from ", time, " on"), s, ok && (time < latest || site < 7))
			}
		}
	}
	wantMayNot(t, "an operation at the last time, the frontier", withLog(latest, anOp(0, latest, 3)))
	for _, e := range aCount() {
		wantState(t, fmt.Sprint("Frontier ", e.n, " and no log"), api.Snap{Frontier: e.n}, e.ok)
	}
	for _, n := range []int64{math.MinInt64, -1} {
		wantMayNot(t, fmt.Sprint("Frontier ", n, " and a log"), withLog(n, anOp(0, 1, 0)))
	}
}

func TestLogRises(t *testing.T) {
	rising := []api.Stamp{at(21, 0), at(21, 1), at(21, 7), at(22, 0), at(23, 7), at(24, 3), at(latest, 0), at(latest, 7)}
	for i, a := range rising {
		for j, b := range rising {
			s := withLog(20, anAttr(a.Time, a.Site, root, "k", "v"), anAttr(b.Time, b.Site, root, "l", "w"))
			wantState(t, fmt.Sprint("the stamps ", a, " and ", b), s, i < j)
		}
	}
	var l []api.Op
	for i, s := range rising {
		l = append(l, anOp(i, s.Time, s.Site))
	}
	wantMayBe(t, "all of them", withLog(20, l...))
	for i := 1; i < len(l); i++ {
		twice := slices.Insert(slices.Clone(l), i, l[i-1])
		wantMayNot(t, fmt.Sprint("the operation ", i-1, " twice"), withLog(20, twice...))
		swapped := slices.Clone(l)
		swapped[i], swapped[i-1] = swapped[i-1], swapped[i]
		wantMayNot(t, fmt.Sprint("the operation ", i, " ahead of the one before"), withLog(20, swapped...))
	}
}

func TestKeptAreOfTheirSite(t *testing.T) {
	for site := range sites {
		for other := range sites {
			for many := 1; many < 4; many++ {
				for i := range many {
					l := opsOf(site, many, 9)
					l[i] = anOp(i, l[i].Stamp.Time, other)
					wantState(t, fmt.Sprintf("site %d keeps %d operations, the one %d of the site %d", site, many, i, other), withKept(site, l...), other == site)
				}
			}
		}
	}
}

func TestKeptRise(t *testing.T) {
	for site := range sites {
		l := opsOf(site, 5, 9)
		for i := 1; i < len(l); i++ {
			for _, time := range []int64{1, l[i-1].Stamp.Time - 1, l[i-1].Stamp.Time} {
				c := slices.Clone(l)
				c[i] = anOp(i, time, site)
				wantMayNot(t, fmt.Sprint("the time ", time, " at ", i), withKept(site, c...))
			}
			wantMayNot(t, fmt.Sprint("the operation ", i-1, " twice"), withKept(site, slices.Insert(slices.Clone(l), i, l[i-1])...))
		}
		wantMayBe(t, "times with gaps", withKept(site, anOp(0, 1, site), anOp(1, 5, site), anOp(2, latest, site)))
	}
}

// TestKeptAndLogAreApart: what is kept may be at, below and above the frontier, in the log or not.
func TestKeptAndLogAreApart(t *testing.T) {
	for _, frontier := range []int64{0, 8, 9, 10, 11, 12, latest} {
		s := withKept(2, opsOf(2, 3, 9)...)
		s.Frontier = frontier
		wantMayBe(t, fmt.Sprint("kept from 9 to 11, Frontier ", frontier), s)
	}
	both := withKept(2, opsOf(2, 3, 9)...)
	both.Log, both.Frontier = opsOf(2, 3, 9), 8
	wantMayBe(t, "kept and in the log", both)
	both.Log[1].Name = "another"
	wantMayBe(t, "kept and otherwise in the log", both)
}

func TestBases(t *testing.T) {
	for _, l := range [][]api.TreeNode{
		nil, {}, someNodes(),
		{node(3, root, "a")},
		{node(3, root, "a"), node(4, root, "a")},
		{node(3, 4, "a"), node(4, trash, "a")},
		{node(mostNode, root, "a")},
		{node(3, mostNode, "a"), node(mostNode, root, "a")},
		{node(root, 0, "", attr("k", "v"))}, {node(trash, 0, "", attr("k", "v"))}, {node(root, 0, "")},
		{node(3, root, long(text), attr(long(text), long(text)))},
	} {
		wantMayBe(t, "the nodes "+tell(l), api.Snap{Base: l})
		wantMayBe(t, "in a whole state the nodes "+tell(l), changed(func(s *api.Snap) { s.Base = l }))
	}
}

// TestWrongBases: of nodes that tree.From refuses, and of nodes above MaxNode, which it takes.
func TestWrongBases(t *testing.T) {
	for _, l := range [][]api.TreeNode{
		{node(0, 0, "")}, {node(-1, root, "a")}, {node(math.MinInt64, root, "a")},
		{node(4, root, "a"), node(3, root, "b")}, {node(3, root, "a"), node(3, root, "b")},
		{node(3, root, "")}, {node(3, root, ".")}, {node(3, root, "..")}, {node(3, root, "a/b")}, {node(3, root, long(text+1))},
		{node(3, 4, "a")}, {node(3, 3, "a")}, {node(3, 0, "a")}, {node(3, 4, "a"), node(4, 3, "a")},
		{node(root, trash, "a")}, {node(root, 0, "a")}, {node(trash, root, "")},
		{node(3, root, "a", attr("k", ""))}, {node(3, root, "a", attr("", "v"))}, {node(3, root, "a", attr("k", long(text+1)))}, {node(3, root, "a", attr(long(text+1), "v"))},
		{node(3, root, "a", attr("k", "v"), attr("k", "v"))}, {node(3, root, "a", attr("l", "v"), attr("k", "v"))},
	} {
		if _, err := tree.From(l); err != api.ErrTree {
			t.Fatal("nodes that make a tree: ", tell(l))
		}
		wantMayNot(t, "the nodes "+tell(l), api.Snap{Base: l})
		wantMayNot(t, "in a whole state the nodes "+tell(l), changed(func(s *api.Snap) { s.Base = l }))
	}
	for _, n := range []int64{mostNode + 1, 1 << 62, math.MaxInt64} {
		for _, l := range [][]api.TreeNode{{node(n, root, "a")}, {node(3, n, "a"), node(n, root, "a")}, {node(3, root, "a"), node(mostNode, trash, "a"), node(n, 3, "a")}} {
			if _, err := tree.From(l); err != api.OK {
				t.Fatal("nodes that make no tree:", l)
			}
			wantMayNot(t, fmt.Sprint("a node above MaxNode: ", l), api.Snap{Base: l})
		}
	}
}

// attrsOf are n attributes, by key.
func attrsOf(n int) []api.Attr {
	var l []api.Attr
	for i := range n {
		l = append(l, attr(fmt.Sprintf("%05x", i), "v"))
	}
	return l
}

func attrOps(site, n int) []api.Op {
	l := make([]api.Op, n)
	for i := range l {
		l[i] = anAttr(int64(i+1), site, root, "k", "")
	}
	return l
}

func nodesOf(n int) []api.TreeNode {
	l := make([]api.TreeNode, n)
	for i := range l {
		l[i] = node(int64(i+3), root, "a")
	}
	return l
}

func partsOf(n int) []api.Part {
	l := make([]api.Part, n)
	for i := range l {
		l[i].Many = 1
	}
	return l
}

// ofLength are states with a list of n members each.
func ofLength(n int) map[string]api.Snap {
	l := map[string]api.Snap{
		"Base":  {Base: nodesOf(n)},
		"Log":   {Log: attrOps(3, n)},
		"Parts": {Parts: partsOf(n)},
	}
	for site := range sites {
		l[fmt.Sprint("Kept of ", site)] = withKept(site, attrOps(site, n)...)
	}
	return l
}

// TestLongestLists: in each list that the chapter names; forms of as many members are short enough to be written.
func TestLongestLists(t *testing.T) {
	for name, s := range ofLength(members) {
		wantMayBe(t, "as many members as may be: "+name, s)
	}
	for name, s := range ofLength(members + 1) {
		wantMayNot(t, "one member more: "+name, s)
	}
	for name, s := range ofLength(2 * members) {
		wantMayNot(t, "twice as many members: "+name, s)
	}
}

// TestManyAttributes: the chapter limits no node's attributes where it says which state may be, but each list's length where one is read.
func TestManyAttributes(t *testing.T) {
	s := api.Snap{Base: []api.TreeNode{node(root, 0, "", attrsOf(members)...)}}
	wantMayBe(t, "as many attributes as a list may have", s)
	s.Base[0].Attrs = attrsOf(members + 1)
	wantErr(t, "Check: one attribute more", snap.Check(s), api.OK)
	wantBytes(t, "Marshal: one attribute more", formOf(t, s), modelForm(s))
	wantUnmarshalErr(t, "one attribute more", modelForm(s), api.ErrSnap)
}
