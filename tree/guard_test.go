package tree_test

import (
	"math"
	"strings"
	"testing"

	"orchard/api"
	"orchard/tree"
)

// The chapter's head and its words: the errors' numbers, which names may be; P12.1: May.

func TestNumbers(t *testing.T) {
	if api.OK != 0 || api.ErrMade != 2 || api.ErrUndo != 120 || api.ErrTree != 121 {
		t.Error("errors", api.OK, api.ErrMade, api.ErrUndo, api.ErrTree)
	}
	if api.Root != root || api.Trash != trash || api.MaxText != text || api.OpMake != 1 || api.OpMove != 2 || api.OpAttr != 3 {
		t.Error("limits and kinds", api.Root, api.Trash, api.MaxText, api.OpMake, api.OpMove, api.OpAttr)
	}
}

func wantName(t *testing.T, name string, want bool) {
	t.Helper()
	if got := tree.Name(name); got != want {
		t.Errorf("Name(%s): %v", brief(name), got)
	}
}

func TestName(t *testing.T) {
	for _, name := range goodNames() {
		wantName(t, name, true)
	}
	for _, name := range badNames() {
		wantName(t, name, false)
	}
	for n := range 600 {
		wantName(t, long(n), n >= 1 && n <= text)
		wantName(t, strings.Repeat(".", n), n >= 3 && n <= text)
		wantName(t, strings.Repeat("/", n), false)
	}
}

// TestNameOfEachByte: alone, and at each place among others.
func TestNameOfEachByte(t *testing.T) {
	for b := range 256 {
		one := string([]byte{byte(b)})
		wantName(t, one, b != '/' && b != '.')
		for _, name := range []string{one + "a", "a" + one, "." + one + "a", ".." + one, "a" + one + "a"} {
			wantName(t, name, b != '/')
		}
	}
	for i := range text {
		wantName(t, long(i)+"/"+long(text-1-i), false)
		wantName(t, long(i)+"."+long(text-1-i), true)
		wantName(t, long(i)+"\x00"+long(text-1-i), true)
	}
}

// numbers are edges of nodes' numbers, and all nodes of some.
func numbers() []int64 {
	l := []int64{least, least + 1, -1 << 32, -3, -2, -1, 0, 10, 11, 15, 19, 1<<32 + 1, 1<<32 + 5, 1<<50 - 1, 1<<50 + 1, most - 2}
	for _, x := range some() {
		l = append(l, x.Node)
	}
	return l
}

// TestMayMake: each number as the node, and each as the parent.
func TestMayMake(t *testing.T) {
	m := modelOf(some())
	for _, n := range numbers() {
		for _, parent := range numbers() {
			x := made(t, some())
			op := aMake(n, parent, "new")
			if n >= 3 && !m.has(n) && m.has(parent) {
				wantDo(t, "a make", x, op)
			} else {
				wantNotDone(t, "a make", x, op)
			}
		}
	}
}

func TestMayMakeFirstNodes(t *testing.T) {
	for n := int64(-3); n < 3; n++ {
		wantNotDone(t, "a node not above 2", newOne(t), aMake(n, root, "a"))
		wantNotDone(t, "a node not above 2", newOne(t), aMake(n, trash, "a"))
	}
	for _, n := range []int64{3, 4, 5, 15, 16, 24, 1 << 40, 1<<50 + 1, most} {
		wantDo(t, "a node above 2", newOne(t), aMake(n, root, "a"))
		wantDo(t, "a node above 2", newOne(t), aMake(n, trash, "a"))
		wantNotDone(t, "under itself", newOne(t), aMake(n, n, "a"))
		x := grown(t, aMake(n, root, "a"))
		wantNotDone(t, "twice", x, aMake(n, root, "a"))
		wantNotDone(t, "twice, elsewhere", x, aMake(n, trash, "b"))
		wantNotDone(t, "twice, under itself", x, aMake(n, n, "c"))
	}
	for _, parent := range []int64{least, -1, 0, 3, 4, 6, most} {
		wantNotDone(t, "a parent that is not there", newOne(t), aMake(5, parent, "a"))
	}
}

// TestMayMakeWhatWasRemoved: a node that is below the trash is there.
func TestMayMakeWhatWasRemoved(t *testing.T) {
	x := grown(t, aMake(5, root, "a"), aMake(6, 5, "b"), aMove(5, trash, "a"))
	wantNotDone(t, "removed", x, aMake(5, root, "a"))
	wantNotDone(t, "below what was removed", x, aMake(6, root, "a"))
	wantDo(t, "under what was removed", x, aMake(7, 6, "a"))
	wantDo(t, "under the trash", x, aMake(8, trash, "a"))
}

// TestMayMove: each number as the node, and each as the parent.
func TestMayMove(t *testing.T) {
	m := modelOf(some())
	for _, n := range numbers() {
		for _, parent := range numbers() {
			x := made(t, some())
			op := aMove(n, parent, "new")
			if n >= 3 && m.has(n) && m.has(parent) && !m.below(parent, n) {
				wantDo(t, "a move", x, op)
			} else {
				wantNotDone(t, "a move", x, op)
			}
		}
	}
}

func TestMayMoveAtTheEdges(t *testing.T) {
	ops := []api.Op{aMake(5, root, "a"), aMake(6, 5, "b"), aMake(7, 6, "c"), aMake(8, 7, "d"), aMake(9, 5, "e"), aMake(10, root, "f")}
	for _, parent := range []int64{least, -1, 0, root, trash, 3, 5, 10, most} {
		wantNotDone(t, "the root", grown(t, ops...), aMove(root, parent, "a"))
		wantNotDone(t, "the trash", grown(t, ops...), aMove(trash, parent, "a"))
		for _, n := range []int64{least, -1, 0, 3, 4, 11, most} {
			wantNotDone(t, "a node that is not there", grown(t, ops...), aMove(n, parent, "a"))
		}
	}
	for _, parent := range []int64{5, 6, 7, 8, 9} {
		wantNotDone(t, "under itself or one below it", grown(t, ops...), aMove(5, parent, "a"))
	}
	for _, parent := range []int64{least, -1, 0, 3, 4, 11, most} {
		wantNotDone(t, "under one that is not there", grown(t, ops...), aMove(5, parent, "a"))
	}
	for _, op := range []api.Op{
		aMove(5, root, "a"), aMove(5, root, "b"), aMove(5, trash, "a"), aMove(5, 10, "a"), aMove(6, 5, "b"), aMove(6, 9, "b"), aMove(6, root, "b"), aMove(8, 5, "b"), aMove(10, 8, "a"), aMove(9, 8, "e"),
	} {
		wantDo(t, "elsewhere, or where it is", grown(t, ops...), op)
	}
}

// TestMayNames: of makes and moves alike.
func TestMayNames(t *testing.T) {
	for _, name := range goodNames() {
		wantDo(t, "a name that may be", newOne(t), aMake(5, root, name))
		wantDo(t, "a name that may be", made(t, some()), aMove(5, root, name))
	}
	for _, name := range badNames() {
		wantNotDone(t, "a name that may not be", newOne(t), aMake(5, root, name))
		wantNotDone(t, "a name that may not be", made(t, some()), aMove(5, root, name))
	}
}

func TestMayAttr(t *testing.T) {
	m := modelOf(some())
	for _, n := range numbers() {
		for _, value := range []string{"", "v", long(text)} {
			op := anAttr(n, "k", value)
			if m.has(n) {
				wantDo(t, "an attribute", made(t, some()), op)
			} else {
				wantNotDone(t, "an attribute", made(t, some()), op)
			}
		}
	}
	for _, n := range []int64{root, trash} {
		wantDo(t, "of the root and of the trash", newOne(t), anAttr(n, "k", "v"))
		wantDo(t, "none, of the root and of the trash", newOne(t), anAttr(n, "k", ""))
	}
	for _, n := range []int64{least, -1, 0, 3, most} {
		wantNotDone(t, "of a node that is not there", newOne(t), anAttr(n, "k", "v"))
	}
}

func TestMayKeysAndValues(t *testing.T) {
	for _, good := range goodTexts() {
		wantDo(t, "a key", newOne(t), anAttr(root, good, "v"))
		wantDo(t, "a key, and no value", newOne(t), anAttr(root, good, ""))
		wantDo(t, "a value", newOne(t), anAttr(root, "k", good))
		wantDo(t, "both", newOne(t), anAttr(root, good, good))
		wantNotDone(t, "an empty key", newOne(t), anAttr(root, "", good))
	}
	wantNotDone(t, "an empty key and an empty value", newOne(t), anAttr(root, "", ""))
	for _, bad := range longTexts() {
		wantNotDone(t, "a key too long", newOne(t), anAttr(root, bad, "v"))
		wantNotDone(t, "a key too long, and no value", newOne(t), anAttr(root, bad, ""))
		wantNotDone(t, "a value too long", newOne(t), anAttr(root, "k", bad))
		wantNotDone(t, "both too long", newOne(t), anAttr(root, bad, bad))
	}
	for n := range 300 {
		if got, want := newOne(t).May(anAttr(root, long(n), "v")), n >= 1 && n <= text; got != want {
			t.Errorf("a key of %d bytes: %v", n, got)
		}
		if got, want := newOne(t).May(anAttr(root, "k", long(n))), n <= text; got != want {
			t.Errorf("a value of %d bytes: %v", n, got)
		}
	}
}

func TestMayKinds(t *testing.T) {
	for _, kind := range []int{0, 4, -1, -2, -3, 5, 255, 256, 257, 1<<32 + 1, 1<<32 + 3, math.MinInt, math.MaxInt} {
		for _, op := range []api.Op{aMake(10, root, "a"), aMove(5, root, "a"), anAttr(5, "k", "v"), {}, {Node: 5, Parent: root, Name: "a", Key: "k", Value: "v"}} {
			op.Kind = kind
			wantNotDone(t, "another Kind", made(t, some()), op)
		}
	}
}

// TestMayLooksAtNoOtherFields: whatever stands in those of other Kinds, and in the stamp.
func TestMayLooksAtNoOtherFields(t *testing.T) {
	stamps := []api.Stamp{{}, {Time: 1}, {Time: -1, Site: -1}, {Time: most, Site: math.MaxInt}, {Time: least, Site: math.MinInt}}
	texts := []string{"", "k", ".", "/", long(text), long(text + 1), long(1 << 16)}
	for _, stamp := range stamps {
		for _, other := range texts {
			for _, n := range []int64{least, -1, 0, root, trash, 3, 5, 11, most} {
				change := anAttr(5, "k", "v")
				change.Stamp, change.Parent, change.Name = stamp, n, other
				wantDo(t, "other fields of an attr", made(t, some()), change)
			}
			for _, op := range []api.Op{aMake(10, 5, "a"), aMove(6, root, "a")} {
				op.Stamp, op.Key, op.Value = stamp, other, other
				wantDo(t, "other fields", made(t, some()), op)
			}
			for _, op := range []api.Op{aMake(5, root, "a"), aMove(5, 9, "a"), aMake(10, root, "/")} {
				op.Stamp, op.Key, op.Value = stamp, other, other
				wantNotDone(t, "other fields", made(t, some()), op)
			}
		}
	}
}

// TestMayInEveryCombination: all Kinds, nodes, parents and texts of a table, held against the words.
func TestMayInEveryCombination(t *testing.T) {
	m, x := modelOf(some()), made(t, some())
	texts := []string{"", "a", ".", "..", "a/b", long(text), long(text + 1)}
	for _, kind := range []int{-1, 0, 1, 2, 3, 4} {
		for _, n := range []int64{least, 0, root, trash, 3, 5, 10, 16, most} {
			for _, parent := range []int64{least, 0, root, trash, 5, 6, 9, 10, 17, most} {
				for _, name := range texts {
					for _, key := range texts {
						for _, value := range []string{"", "a", long(text), long(text + 1)} {
							op := api.Op{Kind: kind, Node: n, Parent: parent, Name: name, Key: key, Value: value}
							if got := x.May(op); got != m.may(op) {
								t.Fatalf("May of %s: %v", tell(op), got)
							}
						}
					}
				}
			}
		}
	}
	wantFace(t, "May changes nothing", x, m)
}
