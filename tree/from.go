package tree

import (
	"slices"
	"strings"

	"orchard/api"
)

// From is the tree of nodes.
func From(l []api.TreeNode) (*Tree, api.Errno) {
	t := New()
	if !t.gather(l) || !t.join(l) || t.hasRing() {
		return nil, api.ErrTree
	}
	return t, api.OK
}

// gather puts in nodes with their attributes, which stand nowhere yet, as long as they may be.
func (t *Tree) gather(l []api.TreeNode) bool {
	if !rises(l, func(a, b api.TreeNode) bool { return a.Node < b.Node }) {
		return false
	}
	for _, x := range l {
		if x.Node < api.Root || !areAttrs(x.Attrs) {
			return false
		}
		n := &node{}
		for _, a := range x.Attrs {
			n.set(strings.Clone(a.Key), strings.Clone(a.Value))
		}
		t.nodes[x.Node] = n
	}
	return true
}

// join lets the nodes that were put in stand where they say, as long as they may.
func (t *Tree) join(l []api.TreeNode) bool {
	for _, x := range l {
		p := place{x.Parent, x.Name}
		if !t.mayStand(x.Node, p) {
			return false
		}
		if x.Node > api.Trash {
			t.enter(x.Node, place{p.parent, strings.Clone(p.name)})
		}
	}
	return true
}

func (t *Tree) mayStand(n int64, p place) bool {
	if n <= api.Trash {
		return p == place{}
	}
	return t.has(p.parent) && Name(p.name)
}

// hasRing counts: each node has a parent that is there, so those that come neither to the root nor to the trash go round.
func (t *Tree) hasRing() bool { return len(t.walk(api.Root))+len(t.walk(api.Trash)) < t.Len() }

func areAttrs(l []api.Attr) bool {
	for _, a := range l {
		if !isText(a.Key) || !isText(a.Value) {
			return false
		}
	}
	return rises(l, func(a, b api.Attr) bool { return a.Key < b.Key })
}

// rises tells whether each of a list is above the one ahead of it.
func rises[T any](l []T, below func(a, b T) bool) bool {
	for i := 1; i < len(l); i++ {
		if !below(l[i-1], l[i]) {
			return false
		}
	}
	return true
}

// Same tells whether two lists of nodes are the same.
func Same(a, b []api.TreeNode) bool { return slices.EqualFunc(a, b, isSame) }

func isSame(a, b api.TreeNode) bool {
	return a.Node == b.Node && a.Parent == b.Parent && a.Name == b.Name && slices.Equal(a.Attrs, b.Attrs)
}
