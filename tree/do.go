package tree

import (
	"strings"

	"orchard/api"
)

// Undo takes back what was done. The zero one takes back nothing.
type Undo struct{ *done }

// done is a Do that was taken. Its tree does not keep it: who holds no Undo has no use for it.
type done struct {
	of     *Tree
	number int64
	before int64 // the number of the one that was the last till then
	back   func()
}

// Name tells whether a node may have a name.
func Name(s string) bool {
	return isText(s) && s != "." && s != ".." && !strings.Contains(s, "/")
}

// isText tells whether s may be a key, or a value that is not empty.
func isText(s string) bool { return s != "" && fits(s) }

func fits(s string) bool { return len(s) <= api.MaxText }

// May tells whether the guard takes an operation.
func (t *Tree) May(op api.Op) bool {
	switch op.Kind {
	case api.OpMake:
		return op.Node > api.Trash && !t.has(op.Node) && t.has(op.Parent) && Name(op.Name)
	case api.OpMove:
		return op.Node > api.Trash && t.has(op.Node) && t.has(op.Parent) && Name(op.Name) && !t.Below(op.Parent, op.Node)
	case api.OpAttr:
		return t.has(op.Node) && isText(op.Key) && fits(op.Value)
	}
	return false
}

// Do does an operation, if the guard takes it.
func (t *Tree) Do(op api.Op) (Undo, bool) {
	if !t.May(op) {
		return Undo{}, false
	}
	back := t.change(op)
	t.dos++
	u := Undo{&done{of: t, number: t.dos, before: t.last, back: back}}
	t.last = t.dos
	return u, true
}

// change does an operation that the guard takes; what it answers makes all as it was.
func (t *Tree) change(op api.Op) func() {
	switch op.Kind {
	case api.OpMake:
		return t.put(op.Node, placeOf(op))
	case api.OpMove:
		return t.move(op.Node, placeOf(op))
	}
	return t.nodes[op.Node].alter(strings.Clone(op.Key), strings.Clone(op.Value))
}

// placeOf copies the name: it is kept, and may be a piece of a long text.
func placeOf(op api.Op) place { return place{op.Parent, strings.Clone(op.Name)} }

func (t *Tree) put(n int64, p place) func() {
	t.nodes[n] = &node{}
	t.enter(n, p)
	return func() {
		t.leave(n)
		delete(t.nodes, n)
	}
}

func (t *Tree) move(n int64, to place) func() {
	from := t.nodes[n].place
	t.leave(n)
	t.enter(n, to)
	return func() {
		t.leave(n)
		t.enter(n, from)
	}
}

func (x *node) alter(key, value string) func() {
	before := x.attrs[key].Value
	x.set(key, value)
	return func() { x.set(key, before) }
}

// Back takes back what was done last.
func (t *Tree) Back(u Undo) api.Errno {
	switch {
	case !t.isMade():
		return api.ErrMade
	case u.done == nil:
		return api.OK
	case u.of != t || u.number != t.last:
		return api.ErrUndo
	}
	u.back()
	t.last = u.before
	return api.OK
}
