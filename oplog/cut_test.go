package oplog_test

import (
	"fmt"
	"testing"

	"orchard/api"
)

// P13.3: Cut and Would.

// TestCutEverywhere: at the frontier itself, below all operations, in their midst, above all.
func TestCutEverywhere(t *testing.T) {
	m := modelOf(nil, 0, ab()...)
	for _, time := range []int64{0, 1, 2, 3, 4, 5, 6, 7, 1000, latest - 1, latest} {
		x := grown(t, ab()...)
		tree := x.Tree().Nodes()
		cut(t, x, time)
		wantModel(t, fmt.Sprintf("Cut(%d)", time), x, m.cut(time))
		wantNodes(t, "the tree stays", x.Tree().Nodes(), tree)
		for _, again := range []int64{time, time + 1, latest} {
			y := x.Clone()
			if again <= latest {
				cut(t, y, again)
				wantModel(t, fmt.Sprintf("Cut(%d), and then Cut(%d)", time, again), y, m.cut(time).cut(again))
			}
		}
	}
}

func TestCutBelowAllOperations(t *testing.T) {
	x := newOne(t)
	add(t, "later ones", x, aMake(5, 0, root, "a"), aMake(6, 0, nodeOf(5, 0), "b"))
	cut(t, x, 4)
	wantBase(t, "below all", x)
	wantTaken(t, "below all", x, at(5, 0), at(6, 0))
	wantNoAdd(t, "at the frontier", x, api.ErrOld, aMake(4, 7, root, "c"))
	wantAdd(t, "above it, ahead of all", x, 1, aMake(5, 1, root, "d"))
}

func TestCutOfALogWithoutOperations(t *testing.T) {
	x := made(t, some(), 2)
	for _, time := range []int64{2, 3, latest, latest} {
		cut(t, x, time)
		wantFace(t, "no operations", x, face{frontier: time, nodes: some(), base: some()})
	}
}

// TestCutInTheMidstOfATime: operations of one time and several sites go together.
func TestCutInTheMidstOfATime(t *testing.T) {
	var ops []api.Op
	for time := int64(3); time <= 5; time++ {
		for site := range 8 {
			ops = append(ops, aMake(time, site, root, "n"))
		}
	}
	for _, time := range []int64{2, 3, 4, 5, 6} {
		x := grown(t, ops...)
		cut(t, x, time)
		wantModel(t, fmt.Sprintf("Cut(%d)", time), x, modelOf(nil, 0, ops...).cut(time))
		for site := range 8 {
			if time >= 3 {
				wantNoAdd(t, "one of the time of the cut", x, api.ErrOld, aMove(time, site, nodeOf(3, 0), trash, "n"))
			}
		}
		if want := 8 * int(5-min(5, max(2, time))); x.Len() != want {
			t.Errorf("Cut(%d): Len %d, want %d", time, x.Len(), want)
		}
	}
}

func TestCutThatMayNotBe(t *testing.T) {
	for _, frontier := range []int64{0, 1, 3, latest} {
		x := newOne(t)
		if frontier <= 3 {
			x = grown(t, ab()...)
		}
		cut(t, x, frontier)
		before := faceOf(x)
		for _, time := range []int64{least, -latest, -1, frontier - 1, latest + 1, latest + 2, most} {
			wantErr(t, fmt.Sprintf("Cut(%d) at %d", time, frontier), x.Cut(time), api.ErrArg)
			wantFace(t, fmt.Sprintf("Cut(%d) at %d", time, frontier), x, before)
		}
		for _, time := range []int64{0, 1, 2} {
			if time < frontier {
				wantErr(t, "below the frontier", x.Cut(time), api.ErrArg)
			}
		}
		wantFace(t, "at the end", x, before)
	}
}

// TestWhatIsCutOffIsGone: what was not taken is nowhere any more, and nothing is taken back for it.
func TestWhatIsCutOffIsGone(t *testing.T) {
	x := grown(t, aMake(1, 0, root, "a"), aMove(2, 1, b, a, "not taken"), anAttr(3, 0, a, "k", "v"), anAttr(4, 0, a, "k", ""), anAttr(4, 1, root, "k", "v"), anAttr(4, 2, trash, "k", "v"))
	cut(t, x, 4)
	wantBase(t, "all is cut off", x, node(root, 0, "", attr("k", "v")), node(trash, 0, "", attr("k", "v")), node(a, root, "a"))
	wantAdd(t, "above it", x, 2, anAttr(5, 0, root, "k", ""), anAttr(5, 1, a, "l", "w"))
	wantRedone(t, "above it", x, 0)
	wantBase(t, "the base stays", x, node(root, 0, "", attr("k", "v")), node(trash, 0, "", attr("k", "v")), node(a, root, "a"))
	wantTree(t, "the tree goes on", x, node(trash, 0, "", attr("k", "v")), node(a, root, "a", attr("l", "w")))
	cut(t, x, 5)
	wantBase(t, "cut off once more", x, node(trash, 0, "", attr("k", "v")), node(a, root, "a", attr("l", "w")))
}

// TestAddBehindACut: among what is left, ahead of it, behind it.
func TestAddBehindACut(t *testing.T) {
	for _, time := range []int64{1, 2, 3, 4, 5, 6} {
		m := modelOf(nil, 0, ab()...).cut(time)
		for late := time + 1; late < 9; late++ {
			for _, op := range []api.Op{aMove(late, 5, a, b, "x"), aMove(late, 5, b, a, "x"), aMake(late, 5, a, "x"), anAttr(late, 5, a, "k", "x")} {
				x := grown(t, ab()...)
				cut(t, x, time)
				next, taken := m.add([]api.Op{op})
				wantAdd(t, fmt.Sprintf("behind Cut(%d)", time), x, taken, op)
				wantModel(t, fmt.Sprintf("behind Cut(%d), %s", time, tell(op)), x, next)
			}
		}
	}
}

// TestCutOfEachKind: the base has what each operation did, and its attributes by key.
func TestCutOfEachKind(t *testing.T) {
	ops := []api.Op{
		aMake(10, 0, b, "made"), aMove(10, 1, nodeOf(10, 0), trash, "moved"), anAttr(10, 2, nodeOf(10, 0), "z", "1"), anAttr(10, 3, nodeOf(10, 0), "a", "2"),
		anAttr(10, 4, a, "aa", ""), anAttr(10, 5, a, "A", "other"), anAttr(10, 6, a, "B", "new"), anAttr(10, 7, a, "none", ""),
		anAttr(11, 0, root, "a", ""), anAttr(11, 1, root, "b", ""), anAttr(11, 2, trash, "k", ""), aMove(11, 3, a, root, "a"), anAttr(11, 4, trash, "l", "v"),
	}
	x := made(t, some(), 9, ops...)
	m := modelOf(some(), 9, ops...)
	wantModel(t, "ahead of the cut", x, m)
	for time := int64(9); time <= 12; time++ {
		cut(t, x, time)
		m = m.cut(time)
		wantModel(t, fmt.Sprintf("Cut(%d)", time), x, m)
	}
	wantNodes(t, "the base is the tree", x.Base(), x.Tree().Nodes())
}

// P13.3: Would.

func TestWould(t *testing.T) {
	x := grown(t, ab()...)
	// The tree: a under the root as c, b under the root with an attribute.
	for _, w := range []struct {
		op   api.Op
		want bool
	}{
		{aMake(9, 0, root, "x"), true},
		{aMake(9, 0, trash, "x"), true},
		{aMake(9, 0, a, "x"), true},
		{aMake(9, 0, 200, "x"), false},
		{aMake(9, 0, nodeOf(9, 0), "x"), false},
		{aMake(1, 0, root, "x"), false},
		{aMake(2, 5, root, "x"), true},
		{aMove(9, 0, a, b, "x"), true},
		{aMove(9, 0, b, a, "x"), true},
		{aMove(9, 0, a, trash, "x"), true},
		{aMove(9, 0, a, a, "x"), false},
		{aMove(9, 0, a, 200, "x"), false},
		{aMove(9, 0, 200, a, "x"), false},
		{aMove(9, 0, a, root, "c"), true},
		{anAttr(9, 0, a, "k", "v"), true},
		{anAttr(9, 0, a, "none", ""), true},
		{anAttr(9, 0, root, "k", "v"), true},
		{anAttr(9, 0, trash, "k", ""), true},
		{anAttr(9, 0, 200, "k", "v"), false},
	} {
		before := faceOf(x)
		wantWould(t, "some", x, w.op, w.want)
		wantFace(t, "Would changes nothing", x, before)
	}
	add(t, "b under a", x, aMove(9, 0, b, a, "b"))
	wantWould(t, "a under its child", x, aMove(10, 0, a, b, "a"), false)
	wantWould(t, "b away from it", x, aMove(10, 0, b, root, "b"), true)
}

// TestWouldWhateverItsStamp: at or below the frontier, one that the log has, ahead of others, at the end of all times.
func TestWouldWhateverItsStamp(t *testing.T) {
	x := grown(t, ab()...)
	cut(t, x, 3)
	for _, s := range []api.Stamp{at(1, 0), at(3, 0), at(3, 7), at(4, 0), at(5, 1), at(6, 0), at(6, 1), at(latest, 7)} {
		wantWould(t, "it would", x, aMove(s.Time, s.Site, a, b, "x"), true)
		wantWould(t, "it would not", x, aMove(s.Time, s.Site, a, a, "x"), false)
		wantWould(t, "an attribute", x, anAttr(s.Time, s.Site, b, "k", "x"), true)
	}
	wantWould(t, "a make that the base has", x, aMake(1, 0, root, "a"), false)
	y := grown(t, aMake(8, 0, root, "late"))
	wantWould(t, "ahead of the make, but done on the tree as it is", y, aMove(2, 0, nodeOf(8, 0), trash, "x"), true)
	wantAdd(t, "ahead of the make, in its place", y, 0, aMove(2, 0, nodeOf(8, 0), trash, "x"))
}

func TestWouldOfWrongOnes(t *testing.T) {
	x := grown(t, ab()...)
	before := faceOf(x)
	for _, w := range wrongs(9, 2) {
		if yes, err := x.Would(w.op); yes || err != w.err {
			t.Errorf("%s: Would: %v, error %d, want %d", w.what, yes, err, w.err)
		}
	}
	wantFace(t, "Would changes nothing", x, before)
}
