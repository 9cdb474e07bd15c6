package oplog

import (
	"slices"

	"orchard/api"
	"orchard/stamp"
	"orchard/tree"
)

// growth is a tree, and how it came to be: a base, and the operations that were done on it, by stamps.
type growth struct {
	*tree.Tree // nil, if no call made the log
	base       ground
	steps      []step
	undos      []tree.Undo // of the last so many steps: a clone's tree has no use for those of the other one
}

// step is an operation that was done, and whether it is taken.
type step struct {
	api.Op
	taken bool
}

// growthOf is the growth of a tree on which nothing is done yet.
func growthOf(t *tree.Tree) growth { return growth{Tree: t, base: groundOf(t.Nodes()...)} }

func (g *growth) clone() growth {
	return growth{Tree: g.Tree.Clone(), base: g.base.clone(), steps: slices.Clone(g.steps)}
}

// find is how many steps stand ahead of a stamp, and whether one has it.
func (g *growth) find(s api.Stamp) (int, bool) {
	return slices.BinarySearchFunc(g.steps, s, func(x step, s api.Stamp) int { return stamp.Compare(x.Stamp, s) })
}

// grow does an operation, that stands behind all steps, and tells whether it is taken.
func (g *growth) grow(op api.Op) bool {
	u, taken := g.Do(op)
	g.steps = append(g.steps, step{op, taken})
	g.undos = append(g.undos, u)
	return taken
}

// shrink takes back all steps but the first n, the last one first, and answers them.
func (g *growth) shrink(n int) []step {
	gone := slices.Clone(g.steps[n:])
	if len(gone) > len(g.undos) {
		g.regrow(n)
		return gone
	}
	left := len(g.undos) - len(gone)
	for _, u := range slices.Backward(g.undos[left:]) {
		g.Back(u)
	}
	g.steps, g.undos = g.steps[:n], g.undos[:left]
	return gone
}

// regrow lets the tree grow anew out of its base, up to the first n steps: there is no way back to them.
func (g *growth) regrow(n int) {
	kept := g.steps[:n]
	g.Tree, _ = tree.From(g.base.nodes())
	g.steps, g.undos = nil, nil
	for _, s := range kept {
		g.grow(s.Op)
	}
}

// settle makes the first n steps part of the base.
func (g *growth) settle(n int) {
	for _, s := range g.steps[:n] {
		if s.taken {
			g.base.take(s.Op)
		}
	}
	noUndo := len(g.steps) - len(g.undos)
	g.steps = slices.Delete(g.steps, 0, n)
	g.undos = slices.Delete(g.undos, 0, max(0, n-noUndo))
}
