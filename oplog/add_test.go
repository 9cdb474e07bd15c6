package oplog_test

import (
	"fmt"
	"slices"
	"testing"

	"orchard/api"
	"orchard/stamp"
)

// P13.2: Add.

func insert(ops []api.Op, i int, op api.Op) []api.Op { return slices.Insert(slices.Clone(ops), i, op) }

type wrongOp struct {
	what string
	op   api.Op
	err  api.Errno
}

// wrongs are operations that stamp.CheckOp refuses, with a stamp, if that is not their fault.
func wrongs(time int64, site int) []wrongOp {
	with := func(op api.Op, turn func(op *api.Op)) api.Op { turn(&op); return op }
	mk, mv, at := aMake(time, site, root, "w"), aMove(time, site, a, root, "w"), anAttr(time, site, a, "k", "w")
	return []wrongOp{
		{"no operation at all", api.Op{}, api.ErrArg},
		{"the time 0", aMake(0, site, root, "w"), api.ErrArg},
		{"a time below 0", aMove(-1, site, a, root, "w"), api.ErrArg},
		{"a time above all", anAttr(latest+1, site, a, "k", "w"), api.ErrArg},
		{"a site below 0", aMove(time, -1, a, root, "w"), api.ErrArg},
		{"a site above all", aMove(time, 8, a, root, "w"), api.ErrArg},
		{"the Kind 0", with(mk, func(op *api.Op) { op.Kind = 0 }), api.ErrArg},
		{"the Kind 4", with(mv, func(op *api.Op) { op.Kind = 4 }), api.ErrArg},
		{"a make of another node", with(mk, func(op *api.Op) { op.Node++ }), api.ErrArg},
		{"a parent that nothing makes", with(mk, func(op *api.Op) { op.Parent = 3 }), api.ErrArg},
		{"a name that is too long", with(mk, func(op *api.Op) { op.Name = long(text + 1) }), api.ErrLong},
		{"no name", with(mv, func(op *api.Op) { op.Name = "" }), api.ErrArg},
		{"the name ..", with(mv, func(op *api.Op) { op.Name = ".." }), api.ErrArg},
		{"a name with a /", with(mk, func(op *api.Op) { op.Name = "a/b" }), api.ErrArg},
		{"a move with a key", with(mv, func(op *api.Op) { op.Key = "k" }), api.ErrArg},
		{"a move of the root", with(mv, func(op *api.Op) { op.Node = root }), api.ErrArg},
		{"a move of the trash", with(mv, func(op *api.Op) { op.Node = trash }), api.ErrArg},
		{"an attribute of no node", with(at, func(op *api.Op) { op.Node = 0 }), api.ErrArg},
		{"a key that is too long", with(at, func(op *api.Op) { op.Key = long(text + 1) }), api.ErrLong},
		{"a value that is too long", with(at, func(op *api.Op) { op.Value = long(text + 1) }), api.ErrLong},
		{"no key", with(at, func(op *api.Op) { op.Key = "" }), api.ErrArg},
		{"an attribute with a name", with(at, func(op *api.Op) { op.Name = "w" }), api.ErrArg},
	}
}

// TestTheWrongOnesAreWrong: the list is of use.
func TestTheWrongOnesAreWrong(t *testing.T) {
	for _, w := range wrongs(7, 2) {
		wantErr(t, w.what, stamp.CheckOp(w.op), w.err)
	}
	for _, op := range ab() {
		wantErr(t, tell(op), stamp.CheckOp(op), api.OK)
	}
}

func TestAddOfNone(t *testing.T) {
	for _, l := range [][]api.Op{nil, {}} {
		x := newOne(t)
		wantAdd(t, "to a new log", x, 0, l...)
		wantFace(t, "to a new log", x, face{})
		x = grown(t, ab()...)
		before := faceOf(x)
		wantAdd(t, "to a log", x, 0, l...)
		wantFace(t, "to a log", x, before)
	}
	x := made(t, some(), latest)
	wantAdd(t, "where nothing can be added", x, 0)
}

// TestAddOfOne: at each place among others, each Kind.
func TestAddOfOne(t *testing.T) {
	m := modelOf(nil, 0, ab()...)
	for time := int64(1); time < 9; time++ {
		for _, op := range []api.Op{
			aMake(time, 5, root, "x"), aMake(time, 5, a, "x"), aMake(time, 5, nodeOf(time, 5), "x"), aMake(time, 5, 200, "x"),
			aMove(time, 5, a, b, "x"), aMove(time, 5, b, a, "x"), aMove(time, 5, a, trash, "x"), aMove(time, 5, b, b, "x"), aMove(time, 5, 200, a, "x"),
			anAttr(time, 5, a, "k", "x"), anAttr(time, 5, b, "k", ""), anAttr(time, 5, root, "k", "x"), anAttr(time, 5, 200, "k", "x"),
		} {
			x := grown(t, ab()...)
			next, taken := m.add([]api.Op{op})
			wantAdd(t, "one", x, taken, op)
			wantModel(t, "one, "+tell(op), x, next)
		}
	}
}

// TestAddAtTheFrontier: below it, at it, one above it.
func TestAddAtTheFrontier(t *testing.T) {
	for _, frontier := range []int64{0, 1, 2, 1000, latest - 1, latest} {
		x := made(t, some(), frontier)
		c := newOne(t)
		cut(t, c, frontier)
		for _, site := range []int{0, 7} {
			for _, time := range []int64{1, frontier - 1, frontier} {
				if time >= 1 && time <= frontier {
					wantNoAdd(t, "not above the frontier", x, api.ErrOld, aMove(time, site, a, root, "a"))
					wantNoAdd(t, "not above the frontier of a Cut", c, api.ErrOld, aMove(time, site, a, root, "a"))
				}
			}
			if frontier < latest {
				wantAdd(t, "one above the frontier", x, 1, aMove(frontier+1, site, a, root, "a"))
				wantAdd(t, "one above the frontier of a Cut", c, 0, aMove(frontier+1, site, a, root, "a"))
			} else {
				wantNoAdd(t, "a time above all", x, api.ErrArg, aMove(frontier+1, site, a, root, "a"))
			}
		}
	}
}

// TestAddOfWrongOnes: first, last and in the midst of others; none is added.
func TestAddOfWrongOnes(t *testing.T) {
	fresh := []api.Op{aMake(2, 5, root, "x"), aMove(9, 0, a, trash, "y"), anAttr(1, 5, root, "k", "z")}
	for _, w := range wrongs(7, 2) {
		x, n, c := grown(t, ab()...), newOne(t), grown(t, ab()...).Clone()
		for _, l := range []([]api.Op){nil, fresh[:1], fresh} {
			for i := range len(l) + 1 {
				wantNoAdd(t, w.what, x, w.err, insert(l, i, w.op)...)
				wantNoAdd(t, w.what+", to a new log", n, w.err, insert(l, i, w.op)...)
				wantNoAdd(t, w.what+", to a clone", c, w.err, insert(l, i, w.op)...)
			}
		}
		wantAdd(t, "behind it", x, 3, fresh...)
	}
}

func TestAddOfOldOnes(t *testing.T) {
	fresh := []api.Op{aMake(5, 5, root, "x"), aMove(9, 0, a, trash, "y"), anAttr(4, 5, root, "k", "z")}
	x := grown(t, ab()...)
	cut(t, x, 3)
	add(t, "above the cut", x, aMake(4, 4, root, "w"))
	for time := int64(1); time <= 3; time++ {
		for site := range 8 {
			for i := range len(fresh) + 1 {
				wantNoAdd(t, "an old one", x, api.ErrOld, insert(fresh, i, aMove(time, site, a, root, "old"))...)
			}
		}
	}
	wantAdd(t, "behind it", x, 3, fresh...)
}

func TestAddOfOneTwice(t *testing.T) {
	fresh := []api.Op{aMake(2, 5, root, "x"), aMove(9, 0, a, trash, "y"), anAttr(1, 5, root, "k", "z")}
	for i, op := range fresh {
		for _, again := range []api.Op{op, aMove(op.Stamp.Time, op.Stamp.Site, a, b, "other"), anAttr(op.Stamp.Time, op.Stamp.Site, a, "k", "other")} {
			x := grown(t, ab()...)
			for j := i + 1; j <= len(fresh); j++ {
				wantNoAdd(t, "twice in one Add", x, api.ErrTwice, insert(fresh, j, again)...)
			}
			wantNoAdd(t, "twice, alone", x, api.ErrTwice, op, again)
			wantNoAdd(t, "three times", x, api.ErrTwice, op, again, again)
			wantAdd(t, "once", x, 3, fresh...)
			wantNoAdd(t, "once more", x, api.ErrTwice, again)
		}
	}
	for _, old := range ab() {
		s := old.Stamp
		for _, again := range []api.Op{old, aMove(s.Time, s.Site, a, b, "other"), anAttr(s.Time, s.Site, root, "k", "other")} {
			for i := range len(fresh) + 1 {
				x := grown(t, ab()...)
				wantNoAdd(t, "the log has it", x, api.ErrTwice, insert(fresh, i, again)...)
				wantNoAdd(t, "its clone has it", x.Clone(), api.ErrTwice, insert(fresh, i, again)...)
			}
		}
	}
	x := grown(t, aMove(3, 0, a, b, "not taken"))
	wantNoAdd(t, "one that is not taken", x, api.ErrTwice, aMove(3, 0, a, b, "not taken"))
}

// TestAddOfStampsBesideOthers: one time with another site, and one site with another time, are other stamps.
func TestAddOfStampsBesideOthers(t *testing.T) {
	x := grown(t, anAttr(5, 3, root, "k", "5.3"))
	for _, s := range []api.Stamp{at(5, 2), at(5, 4), at(4, 3), at(6, 3), at(5, 0), at(5, 7), at(1, 3), at(latest, 3)} {
		wantAdd(t, fmt.Sprint(s), x, 1, anAttr(s.Time, s.Site, root, "k", "v"))
	}
	if x.Len() != 9 {
		t.Error("Len", x.Len())
	}
}

// TestAddFaultsInTheirOrder: of one operation CheckOp's, ErrOld, ErrTwice; of several the first one's.
func TestAddFaultsInTheirOrder(t *testing.T) {
	x := grown(t, ab()...)
	cut(t, x, 3)
	long, bad := aMake(9, 0, root, long(text+1)), aMake(9, 0, root, "")
	old, has, fresh := aMove(3, 0, a, root, "old"), aMove(5, 1, a, root, "has"), anAttr(8, 0, root, "k", "v")
	for _, w := range wrongs(3, 0) {
		wantNoAdd(t, w.what+", and old", x, w.err, w.op)
	}
	for _, w := range wrongs(5, 1) {
		wantNoAdd(t, w.what+", and twice", x, w.err, w.op)
	}
	wantNoAdd(t, "old, and twice in one Add", x, api.ErrOld, old, old)
	wantNoAdd(t, "old, and in the base", x, api.ErrOld, ab()[0])
	faults := []wrongOp{{"long", long, api.ErrLong}, {"bad", bad, api.ErrArg}, {"old", old, api.ErrOld}, {"has", has, api.ErrTwice}}
	for _, l := range orders(faults) {
		var ops []api.Op
		for _, w := range l {
			ops = append(ops, w.op)
		}
		wantNoAdd(t, "the first one's: "+l[0].what, x, l[0].err, ops...)
		wantNoAdd(t, "behind one that may be: "+l[0].what, x, l[0].err, append([]api.Op{fresh}, ops...)...)
		wantNoAdd(t, "behind one twice: "+l[0].what, x, api.ErrTwice, append([]api.Op{fresh, fresh}, ops...)...)
		first := l[0]
		if first.err == api.ErrTwice {
			first = l[1] // a log that From makes has none yet
		}
		wantNoFrom(t, "From, the first one's: "+first.what, first.err, nil, 3, ops...)
	}
}

// TestAddOfManyCountsWhatIsTaken: of those that came, behind all of them have come, and no others.
func TestAddOfManyCountsWhatIsTaken(t *testing.T) {
	x := newOne(t)
	wantAdd(t, "none is taken", x, 0, aMove(3, 0, a, b, "a"), anAttr(4, 0, a, "k", "v"), aMake(5, 0, a, "c"))
	wantAdd(t, "two that came ahead: the old ones, which are taken now, do not count", x, 2, aMake(2, 0, root, "b"), aMake(1, 0, root, "a"))
	wantTaken(t, "all", x, at(1, 0), at(2, 0), at(3, 0), at(4, 0), at(5, 0))
	wantAdd(t, "some of them", x, 2, aMove(6, 0, b, a, "ring"), aMake(6, 1, b, "d"), aMake(6, 2, 200, "no parent"), anAttr(6, 3, b, "k", ""))
	// b comes under a ahead of 3.0, which is not taken any more; that takes nothing from the count.
	wantAdd(t, "one", x, 1, aMove(2, 1, b, a, "b"))
	wantTaken(t, "but for 3.0, and with 6.0", x, at(1, 0), at(2, 0), at(2, 1), at(4, 0), at(5, 0), at(6, 0), at(6, 1), at(6, 3))
}

// TestTakenWhenAnotherOneComesAhead: it stays in its place till then.
func TestTakenWhenAnotherOneComesAhead(t *testing.T) {
	x := grown(t, aMake(1, 0, root, "a"))
	child := aMake(9, 0, b, "child")
	wantAdd(t, "its parent is not there", x, 0, child)
	wantTree(t, "its parent is not there", x, node(a, root, "a"))
	if x.Len() != 2 {
		t.Error("Len", x.Len())
	}
	wantAdd(t, "its parent", x, 1, aMake(2, 0, root, "b"))
	wantTaken(t, "its parent", x, at(1, 0), at(2, 0), at(9, 0))
	wantTree(t, "its parent", x, node(a, root, "a"), node(b, root, "b"), node(child.Node, b, "child"))
	// A move that would make a ring, till what it moves under comes away.
	x = grown(t, aMake(1, 0, root, "a"), aMake(2, 0, a, "b"))
	wantAdd(t, "a under b", x, 0, aMove(9, 0, a, b, "a"))
	wantAdd(t, "b under the root", x, 1, aMove(8, 7, b, root, "b"))
	wantTaken(t, "b under the root", x, at(1, 0), at(2, 0), at(8, 7), at(9, 0))
	wantTree(t, "b under the root", x, node(a, b, "a"), node(b, root, "b"))
}

// TestNoLongerTakenWhenAnotherOneComesAhead: and taken again, when one more comes.
func TestNoLongerTakenWhenAnotherOneComesAhead(t *testing.T) {
	x := grown(t, aMake(1, 0, root, "a"), aMake(2, 0, root, "b"), aMove(7, 0, a, b, "a"), anAttr(8, 0, a, "k", "v"))
	wantTaken(t, "all", x, at(1, 0), at(2, 0), at(7, 0), at(8, 0))
	wantAdd(t, "b under a", x, 1, aMove(5, 0, b, a, "b"))
	wantTaken(t, "b under a", x, at(1, 0), at(2, 0), at(5, 0), at(8, 0))
	wantTree(t, "b under a", x, node(a, root, "a", attr("k", "v")), node(b, a, "b"))
	wantAdd(t, "b under the root", x, 1, aMove(6, 0, b, root, "b"))
	wantTaken(t, "b under the root", x, at(1, 0), at(2, 0), at(5, 0), at(6, 0), at(7, 0), at(8, 0))
	wantTree(t, "b under the root", x, node(a, b, "a", attr("k", "v")), node(b, root, "b"))
}

// TestAttributesThatComeLate: the last one by stamps holds, not the last one that came.
func TestAttributesThatComeLate(t *testing.T) {
	x := grown(t, anAttr(5, 0, root, "k", "5.0"))
	wantAdd(t, "an older one", x, 1, anAttr(4, 7, root, "k", "4.7"))
	wantTree(t, "an older one", x, node(root, 0, "", attr("k", "5.0")))
	wantAdd(t, "one of a greater site", x, 1, anAttr(5, 1, root, "k", "5.1"))
	wantTree(t, "one of a greater site", x, node(root, 0, "", attr("k", "5.1")))
	wantAdd(t, "none", x, 1, anAttr(6, 0, root, "k", ""))
	wantTree(t, "none", x)
	wantAdd(t, "an older one than none", x, 1, anAttr(5, 7, root, "k", "5.7"))
	wantTree(t, "an older one than none", x)
}

// TestFallingRisingAndBetween: one by one, in order, against it, and from the midst outwards.
func TestFallingRisingAndBetween(t *testing.T) {
	want := modelOf(nil, 0, ab()...).face(0)
	falling := ab()
	slices.Reverse(falling)
	var outwards []api.Op
	for left, right := 3, 4; left >= 0; left, right = left-1, right+1 {
		outwards = append(outwards, ab()[left], ab()[right])
	}
	for what, l := range map[string][]api.Op{"rising": ab(), "falling": falling, "between": outwards} {
		x := newOne(t)
		for _, op := range l {
			add(t, what, x, op)
		}
		wantAlike(t, what+", one by one", x, want)
		wantAlike(t, what+", at once", grown(t, l...), want)
	}
}
