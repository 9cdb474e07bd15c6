package oplog

import (
	"cmp"
	"maps"
	"slices"
	"strings"

	"orchard/api"
)

// ground is a base. It is no tree of package tree: what comes to it is taken already, and to ask the guard once more would take as long as the tree is deep.
type ground struct {
	places map[int64]place // of all nodes; those of the root and the trash are zero
	attrs  map[owned]api.Attr
}

// place is where a node stands.
type place struct {
	parent int64
	name   string
}

// owned is a key of a node.
type owned struct {
	node int64
	key  string
}

// groundOf is the ground of a tree's nodes.
func groundOf(l ...api.TreeNode) ground {
	g := ground{places: map[int64]place{api.Root: {}, api.Trash: {}}, attrs: map[owned]api.Attr{}}
	for _, x := range l {
		g.places[x.Node] = place{x.Parent, x.Name}
		for _, a := range x.Attrs {
			g.attrs[owned{x.Node, a.Key}] = a
		}
	}
	return g
}

func (g ground) clone() ground { return ground{maps.Clone(g.places), maps.Clone(g.attrs)} }

// take does an operation that the guard has taken.
func (g ground) take(op api.Op) {
	at := owned{op.Node, op.Key}
	switch {
	case op.Kind != api.OpAttr:
		g.places[op.Node] = place{op.Parent, op.Name}
	case op.Value == "":
		delete(g.attrs, at)
	default:
		g.attrs[at] = api.Attr{Key: op.Key, Value: op.Value}
	}
}

// nodes are the nodes as a tree of package tree tells them.
func (g ground) nodes() []api.TreeNode {
	attrs := g.attrsByNode()
	var l []api.TreeNode
	for _, n := range slices.Sorted(maps.Keys(g.places)) {
		if n > api.Trash || len(attrs[n]) > 0 {
			p := g.places[n]
			l = append(l, api.TreeNode{Node: n, Parent: p.parent, Name: p.name, Attrs: attrs[n]})
		}
	}
	return l
}

// attrsByNode are the attributes of each node, by their keys.
func (g ground) attrsByNode() map[int64][]api.Attr {
	keys := slices.SortedFunc(maps.Keys(g.attrs), func(a, b owned) int {
		return cmp.Or(cmp.Compare(a.node, b.node), strings.Compare(a.key, b.key))
	})
	m := map[int64][]api.Attr{}
	for _, k := range keys {
		m[k.node] = append(m[k.node], g.attrs[k])
	}
	return m
}
