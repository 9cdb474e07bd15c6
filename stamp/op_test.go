package stamp_test

import (
	"math"
	"strings"
	"testing"

	"orchard/api"
	"orchard/stamp"
)

// P11.2: CheckOp.

func aMake() api.Op {
	return api.Op{Stamp: at(3, 2), Kind: api.OpMake, Node: 42, Parent: root, Name: "a"}
}

func aMove() api.Op {
	return api.Op{Stamp: at(3, 2), Kind: api.OpMove, Node: 24, Parent: 25, Name: "a"}
}

func anAttr() api.Op {
	return api.Op{Stamp: at(3, 2), Kind: api.OpAttr, Node: 24, Key: "k", Value: "v"}
}

func samples() []api.Op { return []api.Op{aMake(), aMove(), anAttr()} }

// with is an operation with one thing changed.
func with(op api.Op, change func(op *api.Op)) api.Op {
	change(&op)
	return op
}

// goodNames may be names; badNames, none of them too long, may not.
func goodNames() []string {
	return []string{"a", "ab", "...", ".a", "a.", "..a", "a..", " ", "\x00", "\\", "\xff\xfe", "na me", "名", long(text - 1), long(text), strings.Repeat("名", 85)}
}

func badNames() []string {
	return []string{"", ".", "..", "/", "//", "/a", "a/b", "a/", "./", "../", "/..", "\xff/", long(text-1) + "/", "/" + long(text-1), long(100) + "/" + long(100)}
}

// longNames have more bytes than a text may have; some of them are none for other reasons, too.
func longNames() []string {
	return []string{long(text + 1), long(text) + "/", "/" + long(text), strings.Repeat(".", text+1), strings.Repeat("名", 86), long(1 << 12)}
}

func TestSamplesMayBe(t *testing.T) {
	for _, op := range samples() {
		wantCheckOp(t, "a sample", op, api.OK)
	}
}

func TestStampOfAnOperation(t *testing.T) {
	for _, s := range rising() {
		for _, op := range samples() {
			op.Stamp = s
			if op.Kind == api.OpMake {
				op.Node = 16 + s.Time*8 + int64(s.Site)
			}
			want := api.ErrArg
			if mayBe(s) {
				want = api.OK
			}
			wantCheckOp(t, "its stamp", op, want)
		}
	}
}

// TestStampOfNothing: a stamp that may not be has the node 0, and that is none to make.
func TestStampOfNothing(t *testing.T) {
	for _, s := range []api.Stamp{{}, at(1, 8), at(latest+1, 0)} {
		wantCheckOp(t, "the node 0", with(aMake(), func(op *api.Op) { op.Stamp, op.Node = s, stamp.Node(s) }), api.ErrArg)
	}
}

func TestKind(t *testing.T) {
	for _, kind := range []int{0, 4, -1, 5, -2, 7, 256, 257, math.MinInt, math.MaxInt} {
		for _, op := range samples() {
			op.Kind = kind
			wantCheckOp(t, "no Kind", op, api.ErrArg)
			op.Name, op.Key, op.Value = long(text+1), long(text+1), long(text+1)
			wantCheckOp(t, "no Kind, and texts that are too long", op, api.ErrArg)
		}
		wantCheckOp(t, "no Kind alone", api.Op{Kind: kind}, api.ErrArg)
		wantCheckOp(t, "no Kind, and a stamp", api.Op{Stamp: at(1, 0), Kind: kind}, api.ErrArg)
	}
}

// TestNodeOfAMake: the one that its stamp makes, and no other one.
func TestNodeOfAMake(t *testing.T) {
	for _, s := range risingThatMayBe() {
		own := 16 + s.Time*8 + int64(s.Site)
		op := with(aMake(), func(op *api.Op) { op.Stamp, op.Node = s, own })
		wantCheckOp(t, "its own node", op, api.OK)
		for _, node := range append(noNodes(), own-1, own+1, own-8, own+8, -own, own+1<<50, own^1<<32) {
			op.Node = node
			wantCheckOp(t, "another node", op, api.ErrArg)
		}
	}
}

// TestNodeOfAMove: one that a stamp makes, not the root and not the trash.
func TestNodeOfAMove(t *testing.T) {
	for _, s := range risingThatMayBe() {
		wantCheckOp(t, "a node", with(aMove(), func(op *api.Op) { op.Node = 16 + s.Time*8 + int64(s.Site) }), api.OK)
	}
	for _, node := range append(noNodes(), root, trash, api.FirstNode) {
		wantCheckOp(t, "no node", with(aMove(), func(op *api.Op) { op.Node = node }), api.ErrArg)
	}
}

// TestNodeOfAnAttr: the root and the trash, too.
func TestNodeOfAnAttr(t *testing.T) {
	for _, s := range risingThatMayBe() {
		wantCheckOp(t, "a node", with(anAttr(), func(op *api.Op) { op.Node = 16 + s.Time*8 + int64(s.Site) }), api.OK)
	}
	for _, node := range noNodes() {
		want := api.ErrArg
		if node == root || node == trash {
			want = api.OK
		}
		wantCheckOp(t, "no stamp's node", with(anAttr(), func(op *api.Op) { op.Node = node }), want)
	}
}

func TestParent(t *testing.T) {
	for _, op := range []api.Op{aMake(), aMove()} {
		for _, s := range risingThatMayBe() {
			op.Parent = 16 + s.Time*8 + int64(s.Site)
			wantCheckOp(t, "a parent", op, api.OK)
		}
		for _, node := range noNodes() {
			want := api.ErrArg
			if node == root || node == trash {
				want = api.OK
			}
			op.Parent = node
			wantCheckOp(t, "no stamp's parent", op, want)
		}
		// Whether a tree would take it is not asked here.
		op.Parent = op.Node
		wantCheckOp(t, "its own parent", op, api.OK)
	}
}

func TestName(t *testing.T) {
	for _, op := range []api.Op{aMake(), aMove()} {
		for _, name := range goodNames() {
			op.Name = name
			wantCheckOp(t, "a name", op, api.OK)
		}
		for _, name := range badNames() {
			op.Name = name
			wantCheckOp(t, "no name", op, api.ErrArg)
		}
		for _, name := range longNames() {
			op.Name = name
			wantCheckOp(t, "a name that is too long", op, api.ErrLong)
		}
	}
}

// TestKeyAndValueWhereNoneAre: however long, ErrArg.
func TestKeyAndValueWhereNoneAre(t *testing.T) {
	for _, op := range []api.Op{aMake(), aMove()} {
		for _, x := range []string{"k", "/", "\x00", long(text), long(text + 1), long(1 << 12)} {
			wantCheckOp(t, "a key", with(op, func(op *api.Op) { op.Key = x }), api.ErrArg)
			wantCheckOp(t, "a value", with(op, func(op *api.Op) { op.Value = x }), api.ErrArg)
			wantCheckOp(t, "both", with(op, func(op *api.Op) { op.Key, op.Value = x, x }), api.ErrArg)
		}
	}
}

func TestKeyAndValue(t *testing.T) {
	texts := append(goodNames(), ".", "..", "/", "a/b", "/a", "a/")
	for _, x := range texts {
		wantCheckOp(t, "a key", with(anAttr(), func(op *api.Op) { op.Key = x }), api.OK)
		wantCheckOp(t, "a value", with(anAttr(), func(op *api.Op) { op.Value = x }), api.OK)
		wantCheckOp(t, "both", with(anAttr(), func(op *api.Op) { op.Key, op.Value = x, x }), api.OK)
		wantCheckOp(t, "a key without a value", with(anAttr(), func(op *api.Op) { op.Key, op.Value = x, "" }), api.OK)
		wantCheckOp(t, "a value without a key", with(anAttr(), func(op *api.Op) { op.Key, op.Value = "", x }), api.ErrArg)
	}
	wantCheckOp(t, "neither", with(anAttr(), func(op *api.Op) { op.Key, op.Value = "", "" }), api.ErrArg)
	for _, x := range longNames() {
		for _, y := range append(texts, "") {
			wantCheckOp(t, "a key that is too long", with(anAttr(), func(op *api.Op) { op.Key, op.Value = x, y }), api.ErrLong)
			wantCheckOp(t, "a value that is too long", with(anAttr(), func(op *api.Op) { op.Key, op.Value = y, x }), api.ErrLong)
		}
		wantCheckOp(t, "both are too long", with(anAttr(), func(op *api.Op) { op.Key, op.Value = x, x }), api.ErrLong)
	}
}

// TestPlaceWhereNoneIs: of an attribute, whatever else the parent or the name would be.
func TestPlaceWhereNoneIs(t *testing.T) {
	for _, parent := range []int64{root, trash, 16, 23, leastNode, mostNode, mostNode + 1, -1, noNode, farNode} {
		wantCheckOp(t, "a parent", with(anAttr(), func(op *api.Op) { op.Parent = parent }), api.ErrArg)
	}
	for _, name := range append(append(goodNames(), badNames()[1:]...), longNames()...) {
		wantCheckOp(t, "a name", with(anAttr(), func(op *api.Op) { op.Name = name }), api.ErrArg)
	}
}
