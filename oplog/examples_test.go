package oplog_test

import (
	"testing"

	"orchard/api"
)

// The examples of the chapter, and the whole's second one.

func TestTheExample(t *testing.T) {
	l := newOne(t)
	wantAdd(t, "1.0, 2.0, 3.0", l, 3, aMake(1, 0, root, "a"), aMake(2, 0, root, "b"), aMove(3, 0, a, b, "a"))
	wantRedone(t, "1.0, 2.0, 3.0", l, 0)
	wantTree(t, "a under b", l, node(a, b, "a"), node(b, root, "b"))
	wantAdd(t, "2.1", l, 1, aMove(2, 1, b, a, "b"))
	wantRedone(t, "2.1", l, 1)
	wantTaken(t, "2.1", l, at(1, 0), at(2, 0), at(2, 1))
	wantTree(t, "b under a", l, node(a, root, "a"), node(b, a, "b"))
	cut(t, l, 2)
	wantBase(t, "Cut(2)", l, node(a, root, "a"), node(b, a, "b"))
	wantTree(t, "Cut(2)", l, node(a, root, "a"), node(b, a, "b"))
	wantNoAdd(t, "2.2", l, api.ErrOld, aMake(2, 2, root, "c"))
}

// TestMovesUnderEachOther: two sites, that did not know each other's move, come to the same tree, in which the greater one is not taken.
func TestMovesUnderEachOther(t *testing.T) {
	zero, one := grown(t, aMake(1, 0, root, "a"), aMake(2, 0, root, "b")), grown(t, aMake(1, 0, root, "a"), aMake(2, 0, root, "b"))
	ab, ba := aMove(3, 0, a, b, "a"), aMove(3, 1, b, a, "b")
	wantAdd(t, "site 0, its own", zero, 1, ab)
	wantAdd(t, "site 1, its own", one, 1, ba)
	wantAdd(t, "site 0, the other's", zero, 0, ba)
	wantRedone(t, "site 0, the other's", zero, 0)
	wantAdd(t, "site 1, the other's", one, 1, ab)
	wantRedone(t, "site 1, the other's", one, 1)
	wantTree(t, "site 0", zero, node(a, b, "a"), node(b, root, "b"))
	wantAlike(t, "site 1", one, faceOf(zero))
	wantTaken(t, "site 1", one, at(1, 0), at(2, 0), at(3, 0))
}
