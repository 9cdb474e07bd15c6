package stamp_test

import (
	"math"
	"testing"

	"orchard/api"
)

// P11.2 with several faults at once: every choice of one field with every choice of all others; the answer is that of the fault that the chapter names first.

// The chapter's faults in its order; fine is none.
const (
	ofStamp = iota + 1
	ofMadeNode
	ofParent
	ofLongName
	ofPlace // a name that may not be, a key, a value
	ofNode
	ofLongKey // or value
	ofAttr    // no key, a parent, a name
	fine
)

func errorOf(fault int) api.Errno {
	switch fault {
	case fine:
		return api.OK
	case ofLongName, ofLongKey:
		return api.ErrLong
	}
	return api.ErrArg
}

// choice is what a field may be given, and the fault that it is.
type choice[T any] struct {
	value T
	fault int
}

type choices struct {
	kind                int
	nodes, parents      []choice[int64]
	names, keys, values []choice[string]
}

func stampChoices() []choice[api.Stamp] {
	return []choice[api.Stamp]{
		{at(1, 0), fine}, {at(3, 2), fine}, {at(latest, 7), fine},
		{api.Stamp{}, ofStamp}, {at(latest+1, 0), ofStamp}, {at(3, -1), ofStamp}, {at(3, 8), ofStamp}, {at(math.MinInt64, math.MaxInt), ofStamp},
	}
}

func parentChoices() []choice[int64] {
	return []choice[int64]{
		{root, fine}, {trash, fine}, {leastNode, fine}, {mostNode, fine},
		{0, ofParent}, {16, ofParent}, {leastNode - 1, ofParent}, {mostNode + 1, ofParent}, {noNode, ofParent}, {farNode, ofParent},
	}
}

func nameChoices() []choice[string] {
	return []choice[string]{
		{"a", fine}, {long(text), fine},
		{long(text + 1), ofLongName}, {"/" + long(text), ofLongName}, {long(1 << 12), ofLongName},
		{"", ofPlace}, {".", ofPlace}, {"..", ofPlace}, {"/a", ofPlace}, {"a/b", ofPlace}, {"a/", ofPlace},
	}
}

func noTextChoices(fault int) []choice[string] {
	return []choice[string]{{"", fine}, {"k", fault}, {long(text), fault}, {long(text + 1), fault}}
}

// nodes of a make are told by how far they are from its own one.
func makeChoices() choices {
	return choices{
		kind:    api.OpMake,
		nodes:   []choice[int64]{{0, fine}, {1, ofMadeNode}, {-1, ofMadeNode}, {8, ofMadeNode}, {1 << 50, ofMadeNode}, {math.MinInt64, ofMadeNode}},
		parents: parentChoices(),
		names:   nameChoices(),
		keys:    noTextChoices(ofPlace),
		values:  noTextChoices(ofPlace),
	}
}

func moveChoices() choices {
	return choices{
		kind: api.OpMove,
		nodes: []choice[int64]{
			{leastNode, fine}, {mostNode, fine},
			{0, ofNode}, {root, ofNode}, {trash, ofNode}, {16, ofNode}, {leastNode - 1, ofNode}, {mostNode + 1, ofNode}, {noNode, ofNode}, {farNode, ofNode},
		},
		parents: parentChoices(),
		names:   nameChoices(),
		keys:    noTextChoices(ofPlace),
		values:  noTextChoices(ofPlace),
	}
}

func attrChoices() choices {
	return choices{
		kind: api.OpAttr,
		nodes: []choice[int64]{
			{root, fine}, {trash, fine}, {leastNode, fine}, {mostNode, fine},
			{0, ofNode}, {3, ofNode}, {16, ofNode}, {leastNode - 1, ofNode}, {mostNode + 1, ofNode}, {noNode, ofNode}, {farNode, ofNode},
		},
		parents: []choice[int64]{{0, fine}, {root, ofAttr}, {leastNode, ofAttr}, {-1, ofAttr}, {noNode, ofAttr}},
		names:   noTextChoices(ofAttr),
		keys:    []choice[string]{{"k", fine}, {long(text), fine}, {"a/b", fine}, {long(text + 1), ofLongKey}, {"", ofAttr}},
		values:  []choice[string]{{"", fine}, {"v", fine}, {long(text), fine}, {long(text + 1), ofLongKey}, {long(1 << 12), ofLongKey}},
	}
}

// each goes through all operations that the choices make, each with its first fault.
func (c choices) each(yield func(op api.Op, fault int)) {
	for _, s := range stampChoices() {
		for _, node := range c.nodes {
			if c.kind == api.OpMake {
				node.value += 16 + s.value.Time*8 + int64(s.value.Site)
			}
			for _, parent := range c.parents {
				op := api.Op{Stamp: s.value, Kind: c.kind, Node: node.value, Parent: parent.value}
				c.eachText(op, min(s.fault, node.fault, parent.fault), yield)
			}
		}
	}
}

func (c choices) eachText(op api.Op, fault int, yield func(op api.Op, fault int)) {
	for _, name := range c.names {
		for _, key := range c.keys {
			for _, value := range c.values {
				op.Name, op.Key, op.Value = name.value, key.value, value.value
				yield(op, min(fault, name.fault, key.fault, value.fault))
			}
		}
	}
}

func allChoices() []choices { return []choices{makeChoices(), moveChoices(), attrChoices()} }

func TestFirstFault(t *testing.T) {
	for _, c := range allChoices() {
		seen := map[int]int{}
		c.each(func(op api.Op, fault int) {
			if !t.Failed() {
				wantCheckOp(t, "the first fault", op, errorOf(fault))
			}
			seen[fault]++
		})
		if len(seen) < 5 {
			t.Errorf("of Kind %d only these faults came first: %v", c.kind, seen)
		}
	}
}

// TestEachPairOfFaults: two faults of unlike errors, spelt out one by one.
func TestEachPairOfFaults(t *testing.T) {
	tooLong := long(text + 1)
	for _, c := range []struct {
		what string
		op   api.Op
		want api.Errno
	}{
		{"a make: stamp, name too long", api.Op{Stamp: at(0, 0), Kind: api.OpMake, Node: 16, Parent: root, Name: tooLong}, api.ErrArg},
		{"a make: node, name too long", with(aMake(), func(op *api.Op) { op.Node, op.Name = 43, tooLong }), api.ErrArg},
		{"a make: parent, name too long", with(aMake(), func(op *api.Op) { op.Parent, op.Name = 16, tooLong }), api.ErrArg},
		{"a make: name too long, with a /", with(aMake(), func(op *api.Op) { op.Name = tooLong + "/" }), api.ErrLong},
		{"a make: name too long, a key", with(aMake(), func(op *api.Op) { op.Name, op.Key = tooLong, "k" }), api.ErrLong},
		{"a make: name too long, a value", with(aMake(), func(op *api.Op) { op.Name, op.Value = tooLong, "v" }), api.ErrLong},
		{"a make: a key that is too long", with(aMake(), func(op *api.Op) { op.Key = tooLong }), api.ErrArg},
		{"a move: stamp, name too long", with(aMove(), func(op *api.Op) { op.Stamp, op.Name = at(3, 8), tooLong }), api.ErrArg},
		{"a move: parent, name too long", with(aMove(), func(op *api.Op) { op.Parent, op.Name = 23, tooLong }), api.ErrArg},
		{"a move: name too long, node", with(aMove(), func(op *api.Op) { op.Node, op.Name = root, tooLong }), api.ErrLong},
		{"a move: name too long, a value", with(aMove(), func(op *api.Op) { op.Name, op.Value = tooLong, "v" }), api.ErrLong},
		{"a move: a value that is too long", with(aMove(), func(op *api.Op) { op.Value = tooLong }), api.ErrArg},
		{"an attr: stamp, key too long", with(anAttr(), func(op *api.Op) { op.Stamp, op.Key = at(latest+1, 0), tooLong }), api.ErrArg},
		{"an attr: node, key too long", with(anAttr(), func(op *api.Op) { op.Node, op.Key = 23, tooLong }), api.ErrArg},
		{"an attr: node, value too long", with(anAttr(), func(op *api.Op) { op.Node, op.Value = 23, tooLong }), api.ErrArg},
		{"an attr: no key, value too long", with(anAttr(), func(op *api.Op) { op.Key, op.Value = "", tooLong }), api.ErrLong},
		{"an attr: key too long, a parent", with(anAttr(), func(op *api.Op) { op.Key, op.Parent = tooLong, root }), api.ErrLong},
		{"an attr: value too long, a name", with(anAttr(), func(op *api.Op) { op.Value, op.Name = tooLong, "a" }), api.ErrLong},
		{"an attr: a name that is too long", with(anAttr(), func(op *api.Op) { op.Name = tooLong }), api.ErrArg},
	} {
		wantCheckOp(t, c.what, c.op, c.want)
	}
}
