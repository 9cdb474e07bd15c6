package tree_test

import (
	"cmp"
	"fmt"
	"slices"
	"strings"
	"testing"

	"orchard/api"
	"orchard/tree"
)

// All of the chapter at once: trees that are driven at random, held against a plain telling of the chapter.

// model is the chapter's words, one by one: all nodes, the root and the trash too, in no order.
type model []api.TreeNode

func newModel() model { return model{node(root, 0, ""), node(trash, 0, "")} }

func modelOf(l []api.TreeNode) model {
	var m model
	for _, n := range []int64{root, trash} {
		if !slices.ContainsFunc(l, func(x api.TreeNode) bool { return x.Node == n }) {
			m = append(m, node(n, 0, ""))
		}
	}
	return append(m, l...)
}

func (m model) has(n int64) bool { _, is := m.node(n); return is }

func (m model) node(n int64) (api.TreeNode, bool) {
	for _, x := range m {
		if x.Node == n {
			return x, true
		}
	}
	return api.TreeNode{}, false
}

func (m model) below(n, above int64) bool {
	x, is := m.node(n)
	return is && m.has(above) && (n == above || m.below(x.Parent, above))
}

func nameMayBe(s string) bool {
	return len(s) >= 1 && len(s) <= 255 && !slices.Contains([]byte(s), '/') && !slices.Contains([]string{".", ".."}, s)
}

func (m model) may(op api.Op) bool {
	making, moving, attributing := 1, 2, 3
	switch op.Kind {
	case making:
		return op.Node >= 3 && !m.has(op.Node) && m.has(op.Parent) && nameMayBe(op.Name)
	case moving:
		return m.has(op.Node) && op.Node != 1 && op.Node != 2 && m.has(op.Parent) && !m.below(op.Parent, op.Node) && nameMayBe(op.Name)
	case attributing:
		return m.has(op.Node) && len(op.Key) >= 1 && len(op.Key) <= 255 && len(op.Value) <= 255
	}
	return false
}

// do is another model: the one of before stays as it is.
func (m model) do(op api.Op) (model, bool) {
	if !m.may(op) {
		return m, false
	}
	x, _ := m.node(op.Node)
	rest := slices.DeleteFunc(slices.Clone(m), func(y api.TreeNode) bool { return y.Node == op.Node })
	if op.Kind == 3 {
		attrs := slices.DeleteFunc(slices.Clone(x.Attrs), func(a api.Attr) bool { return a.Key == op.Key })
		if op.Value != "" {
			attrs = append(attrs, attr(op.Key, op.Value))
		}
		slices.SortFunc(attrs, func(a, b api.Attr) int { return strings.Compare(a.Key, b.Key) })
		x.Attrs = attrs
	} else {
		x.Node, x.Parent, x.Name = op.Node, op.Parent, op.Name
	}
	return append(rest, x), true
}

func (m model) children(n int64) []api.Child {
	var l []api.Child
	for _, x := range m {
		if x.Parent == n && x.Node > 2 {
			l = append(l, api.Child{Name: x.Name, Node: x.Node})
		}
	}
	slices.SortFunc(l, func(a, b api.Child) int {
		return cmp.Or(strings.Compare(a.Name, b.Name), cmp.Compare(a.Node, b.Node))
	})
	return l
}

func (m model) lookup(n int64, name string) int64 {
	for _, c := range m.children(n) {
		if c.Name == name {
			return c.Node
		}
	}
	return 0
}

func (m model) attr(n int64, key string) string {
	x, _ := m.node(n)
	for _, a := range x.Attrs {
		if a.Key == key {
			return a.Value
		}
	}
	return ""
}

func (m model) nodes() []api.TreeNode {
	var l []api.TreeNode
	for _, x := range m {
		if x.Node > 2 || len(x.Attrs) > 0 {
			l = append(l, x)
		}
	}
	slices.SortFunc(l, func(a, b api.TreeNode) int { return cmp.Compare(a.Node, b.Node) })
	return l
}

func (m model) walk(n int64, deep int) []step {
	if !m.has(n) {
		return nil
	}
	l := []step{{deep, n}}
	for _, c := range m.children(n) {
		l = append(l, m.walk(c.Node, deep+1)...)
	}
	return l
}

// isTree is P12.4's list of what may be.
func isTree(l []api.TreeNode) bool {
	m := modelOf(l)
	for i, x := range l {
		if x.Node < 1 || i > 0 && l[i-1].Node >= x.Node {
			return false
		}
		for j, a := range x.Attrs {
			if j > 0 && x.Attrs[j-1].Key >= a.Key || a.Key == "" || len(a.Key) > 255 || a.Value == "" || len(a.Value) > 255 {
				return false
			}
		}
		if x.Node <= 2 && (x.Parent != 0 || x.Name != "") || x.Node > 2 && (!nameMayBe(x.Name) || !m.has(x.Parent)) {
			return false
		}
	}
	for _, x := range l {
		for range len(l) {
			x, _ = m.node(x.Parent)
		}
		if x.Node > 2 {
			return false
		}
	}
	return true
}

// wantFace holds all that a tree tells against its model, at nodes that are there and at others.
func wantFace(t *testing.T, what string, x *tree.Tree, m model) {
	t.Helper()
	wantNodes(t, what, x, m.nodes())
	if x.Len() != len(m) {
		t.Errorf("%s: Len: %d, want %d", what, x.Len(), len(m))
	}
	numbers := []int64{least, -1, 0, root, trash, 3, 11, most}
	names, keys := []string{"", "a", "A", "/", long(text), long(text + 1)}, []string{"", "k", "K", long(text), long(text + 1)}
	for _, n := range m {
		numbers, names = append(numbers, n.Node), append(names, n.Name)
		for _, a := range n.Attrs {
			keys = append(keys, a.Key)
		}
	}
	for _, n := range numbers {
		wantFaceAt(t, what, x, m, n, names, keys)
		for _, above := range numbers {
			wantBelow(t, what, x, n, above, m.below(n, above))
		}
	}
}

func wantFaceAt(t *testing.T, what string, x *tree.Tree, m model, n int64, names, keys []string) {
	t.Helper()
	if want, is := m.node(n); is {
		wantNode(t, what, x, want)
	} else {
		wantNoNode(t, what, x, n)
	}
	wantWalk(t, what, x, n, m.walk(n, 0)...)
	if m.has(n) {
		wantChildren(t, what, x, n, m.children(n)...)
	} else {
		wantChildren(t, what, x, n)
	}
	for _, name := range names {
		if m.has(n) {
			wantLookup(t, what, x, n, name, m.lookup(n, name))
		} else {
			wantLookup(t, what, x, n, name, 0)
		}
	}
	for _, key := range keys {
		wantAttr(t, what, x, n, key, m.attr(n, key))
	}
}

// doing is a tree and its model; of what was done and is not taken back, the Undo and the model of before.
type doing struct {
	s     *source
	x     *tree.Tree
	m     model
	undos []tree.Undo
	old   []model
	gone  []tree.Undo // of no use: taken back, or of another tree
}

func begin(t *testing.T, s *source) *doing { return &doing{s: s, x: newOne(t), m: newModel()} }

// number is mostly of few ones, so that operations meet.
func (s *source) number() int64 {
	switch s.below(30) {
	case 0:
		return oneOf(s, []int64{least, -1, 0, most, most - 1, 1 << 50})
	case 1, 2, 3, 4:
		return root
	case 5, 6:
		return trash
	}
	return 3 + int64(s.below(9))
}

func (s *source) name() string {
	switch s.below(20) {
	case 0:
		return oneOf(s, badNames())
	case 1:
		return oneOf(s, goodNames())
	}
	return oneOf(s, []string{"a", "b", "c", "A", "aa"})
}

func (s *source) key() string {
	switch s.below(20) {
	case 0:
		return oneOf(s, append(longTexts(), ""))
	case 1:
		return oneOf(s, goodTexts())
	}
	return oneOf(s, []string{"k", "l", "K"})
}

func (s *source) value() string {
	switch s.below(12) {
	case 0:
		return oneOf(s, longTexts())
	case 1:
		return oneOf(s, goodTexts())
	}
	return oneOf(s, []string{"", "", "v", "w"})
}

func (s *source) op() api.Op {
	op := api.Op{Stamp: api.Stamp{Time: int64(s.below(5)), Site: s.below(3)}}
	switch s.below(40) {
	case 0:
		op = aMake(s.number(), s.number(), s.name())
		op.Kind = oneOf(s, []int{0, 4, -1})
		return op
	case 1:
		// All fields, whatever the Kind.
		return api.Op{Kind: 1 + s.below(3), Node: s.number(), Parent: s.number(), Name: s.name(), Key: s.key(), Value: s.value()}
	}
	switch s.below(3) {
	case 0:
		op.Kind, op.Node, op.Parent, op.Name = api.OpMake, s.number(), s.number(), s.name()
	case 1:
		op.Kind, op.Node, op.Parent, op.Name = api.OpMove, s.number(), s.number(), s.name()
	case 2:
		op.Kind, op.Node, op.Key, op.Value = api.OpAttr, s.number(), s.key(), s.value()
	}
	return op
}

func (d *doing) do(t *testing.T, what string, op api.Op) bool {
	t.Helper()
	may := d.x.May(op)
	u, ok := d.x.Do(op)
	m, want := d.m.do(op)
	if may != want || ok != want || (u == (tree.Undo{})) == want {
		t.Errorf("%s: %s: May %v, Do %v, want %v", what, tell(op), may, ok, want)
	}
	if ok {
		d.undos, d.old = append(d.undos, u), append(d.old, d.m)
	}
	d.m = m
	return ok
}

// back takes back the last Do, if there is one.
func (d *doing) back(t *testing.T, what string) {
	t.Helper()
	last := len(d.undos) - 1
	if last < 0 {
		return
	}
	wantErr(t, what+": Back of the last one", d.x.Back(d.undos[last]), api.OK)
	d.m = d.old[last]
	d.gone = append(d.gone, d.undos[last])
	d.undos, d.old = d.undos[:last], d.old[:last]
}

// wrongBack tries Undos that are not of the last Do.
func (d *doing) wrongBack(t *testing.T, what string) {
	t.Helper()
	wantErr(t, what+": Back of the zero Undo", d.x.Back(tree.Undo{}), api.OK)
	if len(d.undos) > 1 {
		i := d.s.below(len(d.undos) - 1)
		wantErr(t, what+": Back of one that others follow", d.x.Back(d.undos[i]), api.ErrUndo)
	}
	if len(d.gone) > 0 {
		wantErr(t, what+": Back of one that is gone", d.x.Back(oneOf(d.s, d.gone)), api.ErrUndo)
	}
}

// goOn goes on with another tree that has the same nodes, in which nothing can be taken back.
func (d *doing) goOn(x *tree.Tree) {
	d.gone = append(d.gone, d.undos...)
	d.x, d.undos, d.old = x, nil, nil
}

// step does one thing to both, and tells what.
func (d *doing) step(t *testing.T, what string) string {
	t.Helper()
	switch k := d.s.below(20); {
	case k < 4:
		d.back(t, what)
		return "Back"
	case k == 4:
		d.wrongBack(t, what)
		return "wrong Backs"
	case k == 5 && d.s.below(4) == 0:
		old := d.x
		d.goOn(d.x.Clone())
		old.Do(d.s.op())
		return "Clone"
	case k == 6 && d.s.below(4) == 0:
		x, err := tree.From(d.x.Nodes())
		wantErr(t, what+": From of Nodes", err, api.OK)
		if err == api.OK {
			d.goOn(x)
		}
		return "From of Nodes"
	}
	op := d.s.op()
	d.do(t, what, op)
	return tell(op)
}

func runAtRandom(t *testing.T, seed uint64, steps int) {
	t.Helper()
	s := source(seed)
	d := begin(t, &s)
	for i := range steps {
		what := fmt.Sprintf("seed %d, step %d", seed, i)
		told := d.step(t, what)
		wantNodes(t, what+": "+told, d.x, d.m.nodes())
		if i%16 == 15 || i == steps-1 {
			wantFace(t, what+": "+told, d.x, d.m)
		}
		if t.Failed() {
			t.Fatalf("%s: %s", what, told)
		}
	}
	for len(d.undos) > 0 {
		d.back(t, "at the end")
		wantNodes(t, fmt.Sprintf("seed %d, taken back", seed), d.x, d.m.nodes())
	}
	d.wrongBack(t, "all is taken back")
}

func TestTreesAtRandom(t *testing.T) {
	for seed := range uint64(150) {
		runAtRandom(t, seed, 160)
	}
}

// TestRandomOperationsAreOfUse: many are taken, and many not, of each Kind.
func TestRandomOperationsAreOfUse(t *testing.T) {
	s := source(1)
	taken, refused := map[int]int{}, map[int]int{}
	for range 40 {
		m := newModel()
		for range 100 {
			op := s.op()
			var ok bool
			if m, ok = m.do(op); ok {
				taken[op.Kind]++
			} else {
				refused[op.Kind]++
			}
		}
	}
	for kind := api.OpMake; kind <= api.OpAttr; kind++ {
		if taken[kind] < 100 || refused[kind] < 100 {
			t.Error("of the Kind", kind, taken[kind], "are taken,", refused[kind], "not")
		}
	}
	for _, kind := range []int{0, 4, -1} {
		if refused[kind] < 10 {
			t.Error("the Kind", kind, "comes only", refused[kind], "times")
		}
	}
}

func FuzzTree(f *testing.F) {
	for seed := range uint64(10) {
		f.Add(seed)
	}
	f.Fuzz(func(t *testing.T, seed uint64) { runAtRandom(t, seed, 300) })
}
