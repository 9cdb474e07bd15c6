package tree_test

import (
	"fmt"
	"slices"
	"testing"

	"orchard/api"
	"orchard/tree"
)

// P12.4: New, From, Clone, Same.

func wantNoTree(t *testing.T, what string, l []api.TreeNode) {
	t.Helper()
	x, err := tree.From(l)
	if x != nil || err != api.ErrTree {
		t.Errorf("%s: From of %+v: a tree: %v, error %d, want %d", what, l, x != nil, err, api.ErrTree)
	}
}

// wantTree: From takes nodes, and its tree tells them.
func wantTree(t *testing.T, what string, l []api.TreeNode) {
	t.Helper()
	x, err := tree.From(l)
	if x == nil || err != api.OK {
		t.Errorf("%s: From of %+v: a tree: %v, error %d", what, l, x != nil, err)
		return
	}
	wantFace(t, what, x, modelOf(l))
}

func TestNewTreesGoTheirOwnWays(t *testing.T) {
	x, y := newOne(t), newOne(t)
	wantDo(t, "the first one", x, aMake(5, root, "a"))
	wantDo(t, "the first one", x, anAttr(root, "k", "v"))
	wantFace(t, "the second one", y, newModel())
	wantFace(t, "a third one", newOne(t), newModel())
}

func TestFrom(t *testing.T) {
	for _, l := range [][]api.TreeNode{
		nil,
		{},
		{node(root, 0, "")},
		{node(trash, 0, "")},
		{node(root, 0, ""), node(trash, 0, "")},
		{node(root, 0, "", attr("k", "v"))},
		{node(trash, 0, "", attr("k", "v"))},
		{node(3, root, "a")},
		{node(3, trash, "a")},
		{node(most, root, "a")},
		{node(1<<50+1, root, "a"), node(most, 1<<50+1, "a")},
		{node(root, 0, ""), node(3, root, "a")},
		{node(5, 6, "a"), node(6, 7, "b"), node(7, trash, "c")},
		{node(5, root, "a"), node(6, root, "a"), node(7, root, "a")},
		some(),
	} {
		wantTree(t, "nodes that are a tree", l)
	}
	for _, name := range goodNames() {
		wantTree(t, "a name that may be", []api.TreeNode{node(5, root, name)})
	}
	for _, good := range goodTexts() {
		for _, n := range []api.TreeNode{node(root, 0, ""), node(trash, 0, ""), node(5, root, "a")} {
			n.Attrs = []api.Attr{attr(good, good)}
			wantTree(t, "an attribute", []api.TreeNode{n})
		}
	}
}

// with is some with one node turned.
func with(n int64, turn func(x *api.TreeNode)) []api.TreeNode {
	l := some()
	i := slices.IndexFunc(l, func(x api.TreeNode) bool { return x.Node == n })
	turn(&l[i])
	return l
}

func TestFromNumbers(t *testing.T) {
	for _, n := range []int64{least, least + 1, -5, -1, 0} {
		wantNoTree(t, "a number below 1", []api.TreeNode{node(n, root, "a")})
		wantNoTree(t, "a number below 1", []api.TreeNode{node(n, 0, "")})
		wantNoTree(t, "a number below 1", append([]api.TreeNode{node(n, root, "a")}, some()...))
		wantNoTree(t, "a number below 1, at the end", append(some(), node(n, root, "a")))
	}
	for i := range some() {
		l := some()
		wantNoTree(t, "one number twice", slices.Insert(l, i, l[i]))
		if i > 0 {
			l = some()
			l[i-1], l[i] = l[i], l[i-1]
			wantNoTree(t, "two in each other's place", l)
		}
	}
	l := some()
	slices.Reverse(l)
	wantNoTree(t, "falling", l)
	wantNoTree(t, "the root behind the trash", []api.TreeNode{node(trash, 0, ""), node(root, 0, "")})
	wantNoTree(t, "the root behind another one", []api.TreeNode{node(5, root, "a"), node(root, 0, "")})
	wantNoTree(t, "the root twice", []api.TreeNode{node(root, 0, ""), node(root, 0, "")})
	wantNoTree(t, "the trash twice", []api.TreeNode{node(trash, 0, ""), node(trash, 0, "")})
	wantNoTree(t, "one number twice, unlike", []api.TreeNode{node(5, root, "a"), node(5, trash, "b")})
}

// TestFromAttributes: each fault at the root, at the trash and at others, alone and among attributes that may be.
func TestFromAttributes(t *testing.T) {
	faults := map[string][]api.Attr{
		"an empty key":       {attr("", "v")},
		"an empty value":     {attr("k", "")},
		"both empty":         {attr("", "")},
		"one key twice":      {attr("k", "v"), attr("k", "v")},
		"one key, unlike":    {attr("k", "v"), attr("k", "w")},
		"falling":            {attr("l", "v"), attr("k", "w")},
		"falling, at last":   {attr("j", "v"), attr("l", "v"), attr("k", "w")},
		"falling, at first":  {attr("k", "v"), attr("j", "v"), attr("l", "w")},
		"falling by bytes":   {attr("a", "v"), attr("Z", "w")},
		"twice, not beside":  {attr("k", "v"), attr("l", "v"), attr("k", "v")},
		"an empty one first": {attr("", "v"), attr("k", "v")},
		"an empty one last":  {attr("k", "v"), attr("l", "")},
	}
	for i, bad := range longTexts() {
		faults[fmt.Sprint("a key too long ", i)] = []api.Attr{attr(bad, "v")}
		faults[fmt.Sprint("a value too long ", i)] = []api.Attr{attr("k", bad)}
		faults[fmt.Sprint("a value too long, at last ", i)] = []api.Attr{attr("k", "v"), attr("l", bad)}
	}
	for what, attrs := range faults {
		for _, n := range []int64{root, trash, 5, 9, most} {
			wantNoTree(t, what, with(n, func(x *api.TreeNode) { x.Attrs = attrs }))
		}
		wantNoTree(t, what, []api.TreeNode{node(root, 0, "", attrs...)})
		wantNoTree(t, what, []api.TreeNode{node(trash, 0, "", attrs...)})
		wantNoTree(t, what, []api.TreeNode{node(3, root, "a", attrs...)})
	}
}

func TestFromPlaces(t *testing.T) {
	for _, n := range []int64{root, trash} {
		for _, parent := range []int64{least, -1, root, trash, 3, 5, 11, most} {
			wantNoTree(t, "the root or the trash with a parent", with(n, func(x *api.TreeNode) { x.Parent = parent }))
			wantNoTree(t, "the root or the trash with both", with(n, func(x *api.TreeNode) { x.Parent, x.Name = parent, "a" }))
			wantNoTree(t, "the root or the trash with a parent, alone", []api.TreeNode{node(n, parent, "")})
		}
		for _, name := range append(goodNames(), ".", "..", "/", long(text+1)) {
			wantNoTree(t, "the root or the trash with a name", with(n, func(x *api.TreeNode) { x.Name = name }))
			wantNoTree(t, "the root or the trash with a name, alone", []api.TreeNode{node(n, 0, name)})
		}
	}
	for _, n := range []int64{3, 5, 17, most} {
		for _, name := range badNames() {
			wantNoTree(t, "a name that may not be", with(n, func(x *api.TreeNode) { x.Name = name }))
		}
		for _, parent := range []int64{least, -1, 0, 10, 15, 19, most - 2} {
			wantNoTree(t, "a parent that is not there", with(n, func(x *api.TreeNode) { x.Parent = parent }))
		}
	}
	wantNoTree(t, "a parent that is not there", []api.TreeNode{node(5, 4, "a")})
	wantNoTree(t, "a parent that is not there", []api.TreeNode{node(5, 6, "a")})
	wantNoTree(t, "a parent that is not there", []api.TreeNode{node(5, 0, "a")})
	wantNoTree(t, "no parent and no name", []api.TreeNode{node(5, 0, "")})
}

// TestFromRings: of one, two and more nodes, alone, with others below them, and beside a tree.
func TestFromRings(t *testing.T) {
	for _, many := range []int64{1, 2, 3, 4, 7, 50, 1000} {
		var ring []api.TreeNode
		for n := range many {
			ring = append(ring, node(100+n, 100+(n+1)%many, "a"))
		}
		backwards := slices.Clone(ring)
		for i := range backwards {
			backwards[i].Parent = 100 + (int64(i)+many-1)%many
		}
		for _, l := range [][]api.TreeNode{ring, backwards} {
			wantNoTree(t, "a ring", l)
			wantNoTree(t, "a ring, and one below it", append(slices.Clone(l), node(5000, 100, "b")))
			wantNoTree(t, "a ring, and a tree", append([]api.TreeNode{node(5, root, "a"), node(6, trash, "a")}, l...))
			wantNoTree(t, "a ring, and the root", append([]api.TreeNode{node(root, 0, "", attr("k", "v"))}, l...))
			for _, end := range []int64{root, trash} {
				open := slices.Clone(l)
				open[0].Parent = end
				if _, err := tree.From(open); err != api.OK {
					t.Errorf("a ring of %d that is opened: error %d", many, err)
				}
			}
		}
	}
	wantNoTree(t, "two rings", []api.TreeNode{node(5, 6, "a"), node(6, 5, "a"), node(7, 8, "a"), node(8, 7, "a")})
	for _, n := range []int64{5, 6, 9} {
		wantNoTree(t, "a ring in the midst", with(n, func(x *api.TreeNode) { x.Parent = 4 }))
		wantNoTree(t, "a ring of one in the midst", with(n, func(x *api.TreeNode) { x.Parent = n }))
	}
	wantNoTree(t, "a ring below the trash", with(16, func(x *api.TreeNode) { x.Parent = 17 }))
}

// TestFromEveryShape: all parents that few nodes may have, rings among them.
func TestFromEveryShape(t *testing.T) {
	trees, many := 0, int64(4)
	parents := []int64{0, root, trash, 3, 4, 5, 6}
	for shape := range len(parents) * len(parents) * len(parents) * len(parents) {
		var l []api.TreeNode
		for n, k := int64(3), shape; n < 3+many; n, k = n+1, k/len(parents) {
			l = append(l, node(n, parents[k%len(parents)], "a"))
		}
		if !isTree(l) {
			wantNoTree(t, "a shape", l)
			continue
		}
		trees++
		wantNodes(t, "a shape", made(t, l), l)
	}
	// So many forests of 4 nodes there are below two roots: 2 (2 + 4)^3.
	if trees != 432 {
		t.Error("trees", trees)
	}
}

// TestFromAtRandom: lists with one field turned, held against the words.
func TestFromAtRandom(t *testing.T) {
	s := source(5)
	var taken, refused int
	for range 20_000 {
		l := some()
		i := s.below(len(l))
		switch s.below(6) {
		case 0:
			l[i].Node = oneOf(&s, numbers())
		case 1, 2:
			l[i].Parent = oneOf(&s, numbers())
		case 3:
			l[i].Name = s.name()
		case 4:
			l[i].Attrs = append(slices.Clone(l[i].Attrs), attr(s.key(), s.value()))
		case 5:
			l = slices.Delete(l, i, i+1)
		}
		x, err := tree.From(l)
		if !isTree(l) {
			refused++
			if x != nil || err != api.ErrTree {
				t.Fatalf("From of %+v: error %d", l, err)
			}
			continue
		}
		taken++
		if err != api.OK {
			t.Fatalf("From of %+v: error %d", l, err)
		}
		wantNodes(t, "at random", x, modelOf(l).nodes())
	}
	if taken < 2000 || refused < 2000 {
		t.Error("taken", taken, "refused", refused)
	}
}

func TestClone(t *testing.T) {
	for _, l := range [][]api.TreeNode{nil, {node(5, root, "a")}, some()} {
		x := made(t, l)
		c := x.Clone()
		if c == x {
			t.Error("a clone is the tree itself")
		}
		wantFace(t, "a clone", c, modelOf(l))
		wantFace(t, "a clone's clone", c.Clone().Clone(), modelOf(l))
		wantFace(t, "the tree", x, modelOf(l))
	}
}

// TestClonesGoTheirOwnWays: whatever is done, or taken back, in the one or in the other.
func TestClonesGoTheirOwnWays(t *testing.T) {
	for _, first := range eachKind() {
		for _, second := range eachKind() {
			x := made(t, some())
			u := wantDo(t, "ahead", x, first)
			want := x.Nodes()
			c, d := x.Clone(), x.Clone()
			x.Do(second)
			wantNodes(t, "the tree changes: its clone", c, want)
			after := x.Nodes()
			c.Do(second)
			wantNodes(t, "both go on alike", c, after)
			wantNodes(t, "its other clone", d, want)
			e := d.Clone()
			d.Do(second)
			wantNodes(t, "a clone changes: its clone", e, want)
			y := made(t, some())
			v := wantDo(t, "ahead", y, first)
			f := y.Clone()
			wantErr(t, "Back", y.Back(v), api.OK)
			wantNodes(t, "the tree is taken back: its clone", f, want)
			wantErr(t, "Back of another tree", f.Back(u), api.ErrUndo)
			f.Do(second)
			wantNodes(t, "the clone changes: its tree", y, some())
		}
	}
}

func TestSame(t *testing.T) {
	a := func() api.TreeNode { return node(5, root, "a", attr("k", "v"), attr("l", "w")) }
	b := func() api.TreeNode { return node(6, 5, "b") }
	base := []api.TreeNode{a(), b()}
	changed := func(change func(x *api.TreeNode)) []api.TreeNode {
		x := a()
		change(&x)
		return []api.TreeNode{x, b()}
	}
	unlike := map[string][]api.TreeNode{
		"Node":           changed(func(x *api.TreeNode) { x.Node = 4 }),
		"Parent":         changed(func(x *api.TreeNode) { x.Parent = 2 }),
		"Name":           changed(func(x *api.TreeNode) { x.Name = "A" }),
		"a key":          changed(func(x *api.TreeNode) { x.Attrs[0].Key = "K" }),
		"a value":        changed(func(x *api.TreeNode) { x.Attrs[1].Value = "W" }),
		"the last value": changed(func(x *api.TreeNode) { x.Attrs[1].Value = "" }),
		"one less":       changed(func(x *api.TreeNode) { x.Attrs = x.Attrs[:1] }),
		"one more":       changed(func(x *api.TreeNode) { x.Attrs = append(x.Attrs, attr("m", "x")) }),
		"none":           changed(func(x *api.TreeNode) { x.Attrs = nil }),
		"in their order": changed(func(x *api.TreeNode) { slices.Reverse(x.Attrs) }),
		"shorter":        {a()},
		"the last alone": {b()},
		"longer":         {a(), b(), b()},
		"another order":  {b(), a()},
		"empty":          {},
		"nil":            nil,
		"the last one":   {a(), node(6, 5, "c")},
	}
	if !tree.Same(base, []api.TreeNode{a(), b()}) || !tree.Same(base, base) {
		t.Error("the same ones are not the same")
	}
	for what, l := range unlike {
		if tree.Same(base, l) || tree.Same(l, base) {
			t.Error("unlike in", what, "and the same")
		}
		if !tree.Same(l, slices.Clone(l)) {
			t.Error("unlike in", what, ": not the same as itself")
		}
	}
}

// TestSameOfAnyNodes: also of such as are no tree; nil and empty lists are the same (R4).
func TestSameOfAnyNodes(t *testing.T) {
	if !tree.Same(nil, nil) || !tree.Same(nil, []api.TreeNode{}) || !tree.Same([]api.TreeNode{}, nil) || !tree.Same([]api.TreeNode{}, []api.TreeNode{}) {
		t.Error("nil and empty lists")
	}
	without, empty := []api.TreeNode{node(5, root, "a")}, []api.TreeNode{{Node: 5, Parent: root, Name: "a", Attrs: []api.Attr{}}}
	if !tree.Same(without, empty) || !tree.Same(empty, without) {
		t.Error("nil and empty attributes")
	}
	if tree.Same(nil, []api.TreeNode{{}}) || tree.Same([]api.TreeNode{{}}, nil) || !tree.Same([]api.TreeNode{{}}, []api.TreeNode{{}}) {
		t.Error("the zero node")
	}
	odd := []api.TreeNode{node(least, most, long(1<<16), attr("", ""), attr("", "")), node(-1, -1, "/")}
	if !tree.Same(odd, slices.Clone(odd)) || tree.Same(odd, odd[:1]) {
		t.Error("nodes that are no tree")
	}
}
