package oplog_test

import (
	"slices"
	"testing"

	"orchard/api"
	"orchard/oplog"
)

// P13.3: Redone.

// row are attributes of the root at the site 0, with times from 1 on: each is taken.
func row(n int) []api.Op {
	var ops []api.Op
	for time := range int64(n) {
		ops = append(ops, anAttr(time+1, 0, root, "k", "v"))
	}
	return ops
}

func TestRedoneOfNewLogs(t *testing.T) {
	wantRedone(t, "New", newOne(t), 0)
	wantRedone(t, "From", made(t, some(), 4), 0)
	falling := row(9)
	slices.Reverse(falling)
	wantRedone(t, "From of operations that fall", made(t, nil, 0, falling...), 0)
}

// TestRedoneOfOne: all that is taken and stands behind one is taken back, it is done, they are done again.
func TestRedoneOfOne(t *testing.T) {
	for late := range int64(10) {
		x := grown(t, row(9)...)
		wantRedone(t, "many at once", x, 0)
		add(t, "one", x, anAttr(max(1, late), 5, root, "k", "v"))
		wantRedone(t, "one", x, 9-int(max(1, late)))
	}
	x := newOne(t)
	rising := row(9)
	for _, op := range rising {
		add(t, "rising", x, op)
		wantRedone(t, "rising", x, 0)
	}
	y := newOne(t)
	for i, op := range slices.Backward(rising) {
		add(t, "falling", y, op)
		wantRedone(t, "falling", y, 8-i)
	}
}

// TestRedoneOfMany: at most those behind the least of what came; none, if all stands behind all.
func TestRedoneOfMany(t *testing.T) {
	x := grown(t, row(9)...)
	add(t, "behind all", x, anAttr(9, 1, root, "k", "v"), anAttr(12, 0, root, "k", "v"), anAttr(11, 0, root, "k", "v"))
	wantRedone(t, "behind all", x, 0)
	add(t, "between the last ones", x, anAttr(11, 3, root, "k", "v"), anAttr(10, 0, root, "k", "v"))
	if n := x.Redone(); n < 1 || n > 2 {
		t.Error("between the last ones: Redone", n)
	}
	add(t, "the least one is the last of the list", x, anAttr(13, 0, root, "k", "v"), anAttr(12, 5, root, "k", "v"), anAttr(8, 5, root, "k", "v"))
	if n := x.Redone(); n < 1 || n > 6 {
		t.Error("the least one is the last of the list: Redone", n)
	}
}

// TestRedoneOfTurnedOnes: of what was taken and is not any more, it is at least that one that was taken back.
func TestRedoneOfTurnedOnes(t *testing.T) {
	x := grown(t, aMake(1, 0, root, "a"), aMake(2, 0, root, "b"), aMove(4, 0, a, b, "a"))
	add(t, "it is not taken any more", x, aMove(3, 0, b, a, "b"))
	wantRedone(t, "it is not taken any more", x, 1)
}

// TestRedoneOfTheLastAdd: that answered OK; of other calls nothing is heard.
func TestRedoneOfTheLastAdd(t *testing.T) {
	x := grown(t, row(9)...)
	add(t, "one", x, anAttr(4, 5, root, "k", "v"))
	wantRedone(t, "one", x, 5)
	for _, w := range wrongs(2, 5) {
		x.Add(anAttr(1, 6, root, "k", "v"), w.op)
		wantRedone(t, "an Add that answers an error", x, 5)
	}
	x.Add(anAttr(1, 0, root, "k", "v"))
	wantRedone(t, "an Add of one that it has", x, 5)
	x.Would(anAttr(1, 7, root, "k", "v"))
	wantRedone(t, "Would", x, 5)
	x.Cut(-1)
	wantRedone(t, "a Cut that answers an error", x, 5)
	for range x.Ops() {
		wantRedone(t, "Ops", x, 5)
	}
	x.Tree().Do(anAttr(9, 9, root, "k", ""))
	x.Base()
	c := x.Clone()
	wantRedone(t, "Clone", x, 5)
	wantRedone(t, "the clone", c, 5)
	cut(t, x, 3)
	wantRedone(t, "Cut", x, 5)
	cut(t, x, latest)
	wantRedone(t, "Cut of all", x, 5)
	x.Add(anAttr(latest, 0, root, "k", "v"))
	wantRedone(t, "an Add of an old one", x, 5)
	wantAdd(t, "of none", x, 0)
	wantRedone(t, "of none", x, 0)
	add(t, "the clone's own", c, anAttr(6, 5, root, "k", "v"))
	wantRedone(t, "the clone's own", c, 3)
	wantRedone(t, "the clone's own is not heard of in the other one", x, 0)
}

// TestRedoneOfClones: what was done ahead of a clone is taken back in it, too, and not more of it.
func TestRedoneOfClones(t *testing.T) {
	for late := int64(1); late <= 9; late++ {
		x := grown(t, row(9)...)
		for what, c := range map[string]*oplog.Log{"the clone": x.Clone(), "the clone's clone": x.Clone().Clone(), "the log itself": x} {
			add(t, what, c, anAttr(late, 5, root, "k", "v"))
			wantRedone(t, what, c, 9-int(late))
			behind := 9 - int(late)
			if late > 1 {
				behind += 2 // the one of before, and one of the row
			}
			add(t, what, c, anAttr(max(1, late-1), 6, root, "k", "v"))
			wantRedone(t, what, c, behind)
		}
	}
}
