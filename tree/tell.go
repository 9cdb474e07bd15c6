package tree

import (
	"iter"
	"maps"
	"slices"
	"strings"

	"orchard/api"
)

// Node is a node as it stands, and whether it is there.
func (t *Tree) Node(n int64) (api.TreeNode, bool) {
	x := t.at(n)
	if x == nil {
		return api.TreeNode{}, false
	}
	return x.tell(n), true
}

func (x *node) tell(n int64) api.TreeNode {
	attrs := slices.SortedFunc(maps.Values(x.attrs), func(a, b api.Attr) int { return strings.Compare(a.Key, b.Key) })
	return api.TreeNode{Node: n, Parent: x.parent, Name: x.name, Attrs: attrs}
}

// Nodes are all nodes, by their numbers; the root and the trash only if they have attributes.
func (t *Tree) Nodes() []api.TreeNode {
	if !t.isMade() {
		return nil
	}
	var l []api.TreeNode
	for _, n := range slices.Sorted(maps.Keys(t.nodes)) {
		x := t.nodes[n]
		if n > api.Trash || len(x.attrs) > 0 {
			l = append(l, x.tell(n))
		}
	}
	return l
}

// Len is how many nodes there are.
func (t *Tree) Len() int {
	if !t.isMade() {
		return 0
	}
	return len(t.nodes)
}

// Children are the nodes under a node, by their names, then by their numbers.
func (t *Tree) Children(n int64) []api.Child {
	x := t.at(n)
	if x == nil {
		return nil
	}
	var l []api.Child
	for _, name := range slices.Sorted(maps.Keys(x.under)) {
		for _, n := range x.under[name] {
			l = append(l, api.Child{Name: name, Node: n})
		}
	}
	return l
}

// Lookup is of the nodes under a node with a name the one with the least number, and whether there is one.
func (t *Tree) Lookup(n int64, name string) (int64, bool) {
	x := t.at(n)
	if x == nil || len(x.under[name]) == 0 {
		return 0, false
	}
	return x.under[name][0], true
}

// Attr is an attribute of a node, and whether it has it.
func (t *Tree) Attr(n int64, key string) (string, bool) {
	x := t.at(n)
	if x == nil {
		return "", false
	}
	a, has := x.attrs[key]
	return a.Value, has
}

// Below tells whether a node stands below another one, or is it.
func (t *Tree) Below(n, above int64) bool {
	for x := t.at(n); x != nil; x = t.at(n) {
		if n == above {
			return true
		}
		n = x.parent
	}
	return false
}

// step is a node of a walk, and how deep it stands.
type step struct {
	deep int
	node int64
}

// Walk goes through the nodes from one on, each with how deep it stands.
func (t *Tree) Walk(n int64) iter.Seq2[int, int64] {
	// Gathered now: what is told is the tree of the moment in which it was asked.
	l := t.walk(n)
	return func(yield func(int, int64) bool) {
		for _, s := range l {
			if !yield(s.deep, s.node) {
				return
			}
		}
	}
}

// walk has a list of what is still to do, not calls within calls: a tree may be deep.
func (t *Tree) walk(n int64) []step {
	if !t.has(n) {
		return nil
	}
	var l []step
	todo := []step{{0, n}}
	for len(todo) > 0 {
		s := todo[len(todo)-1]
		todo = todo[:len(todo)-1]
		l = append(l, s)
		for _, c := range slices.Backward(t.Children(s.node)) {
			todo = append(todo, step{s.deep + 1, c.Node})
		}
	}
	return l
}
