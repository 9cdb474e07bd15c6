package tree_test

import (
	"fmt"
	"math"
	"reflect"
	"slices"
	"strings"
	"testing"

	"orchard/api"
	"orchard/tree"
)

// The document's numbers, told anew.
const (
	root  = 1
	trash = 2
	text  = 255           // bytes of a name, a key, a value
	least = math.MinInt64 // a number far below all nodes
	most  = math.MaxInt64 // the greatest node's
)

// source is a sequence that is the same in each run.
type source uint64

func (s *source) next() uint64 {
	*s = *s*6364136223846793005 + 1442695040888963407
	return uint64(*s >> 33)
}

func (s *source) below(n int) int { return int(s.next() % uint64(n)) }

func oneOf[T any](s *source, l []T) T { return l[s.below(len(l))] }

func shuffled[T any](s *source, l []T) []T {
	l = slices.Clone(l)
	for i := range l {
		j := i + s.below(len(l)-i)
		l[i], l[j] = l[j], l[i]
	}
	return l
}

func aMake(n, parent int64, name string) api.Op {
	return api.Op{Kind: api.OpMake, Node: n, Parent: parent, Name: name}
}

func aMove(n, parent int64, name string) api.Op {
	return api.Op{Kind: api.OpMove, Node: n, Parent: parent, Name: name}
}

func anAttr(n int64, key, value string) api.Op {
	return api.Op{Kind: api.OpAttr, Node: n, Key: key, Value: value}
}

func long(n int) string { return strings.Repeat("n", n) }

// goodNames may be, badNames not.
func goodNames() []string {
	return []string{"a", "b", "aa", " ", "\n", "\x00", "\xff", "...", "....", ".a", "a.", "..a", ". ", ". .", "a b", "\\", "é", "日本", long(text - 1), long(text),
		strings.Repeat(".", text), strings.Repeat("日", text/3), strings.Repeat("\x00", text), strings.Repeat("\xff", text)}
}

func badNames() []string {
	return []string{"", ".", "..", "/", "//", "/a", "a/", "a/b", "./", "../", "/.", "/..", "a/..", long(text + 1), long(2 * text), long(1 << 16),
		strings.Repeat(".", text+1), strings.Repeat("日", text/3+1), strings.Repeat("/", text), "/" + long(text-1), long(text-1) + "/", long(text) + "/"}
}

// goodTexts are keys, and values that are not empty; longTexts are neither.
func goodTexts() []string {
	return append(goodNames(), ".", "..", "/", "//", "a/b", strings.Repeat("/", text), "/"+long(text-1))
}

func longTexts() []string {
	return []string{long(text + 1), long(2 * text), long(1 << 16), strings.Repeat("日", text/3+1)}
}

func brief(s string) string {
	if len(s) > 24 {
		return fmt.Sprintf("%q.. (%d bytes)", s[:12], len(s))
	}
	return fmt.Sprintf("%q", s)
}

func tell(op api.Op) string {
	return fmt.Sprintf("{Kind %d, Node %d, Parent %d, Name %s, Key %s, Value %s, Stamp %v}", op.Kind, op.Node, op.Parent, brief(op.Name), brief(op.Key), brief(op.Value), op.Stamp)
}

func node(n, parent int64, name string, attrs ...api.Attr) api.TreeNode {
	return api.TreeNode{Node: n, Parent: parent, Name: name, Attrs: attrs}
}

func attr(key, value string) api.Attr { return api.Attr{Key: key, Value: value} }

// some are nodes with attributes at the root, at the trash and at others; several have one name; some parents have greater numbers than what stands under them.
func some() []api.TreeNode {
	return []api.TreeNode{
		node(root, 0, "", attr("a", "of the root"), attr("b", "2")),
		node(trash, 0, "", attr("k", "of the trash")),
		node(3, root, "a"),
		node(4, 9, "b", attr("k", "v")),
		node(5, root, "a", attr("A", "1"), attr("a", "2"), attr("aa", "3"), attr("b", "4")),
		node(6, 5, "b"),
		node(7, 5, "a"),
		node(8, 5, "b"),
		node(9, 6, "c", attr(long(text), long(text))),
		node(16, trash, "a"),
		node(17, 16, "a"),
		node(18, trash, "a"),
		node(1<<50, root, "Z"),
		node(most-1, most, "under the last one"),
		node(most, root, long(text)),
	}
}

func newOne(t *testing.T) *tree.Tree {
	t.Helper()
	x := tree.New()
	if x == nil {
		t.Fatal("New: nil")
	}
	return x
}

func made(t *testing.T, l []api.TreeNode) *tree.Tree {
	t.Helper()
	x, err := tree.From(l)
	if err != api.OK || x == nil {
		t.Fatalf("From: error %d, %v", err, x)
	}
	return x
}

func grown(t *testing.T, ops ...api.Op) *tree.Tree {
	t.Helper()
	x := newOne(t)
	for _, op := range ops {
		wantDo(t, "grown", x, op)
	}
	return x
}

func wantErr(t *testing.T, what string, got, want api.Errno) {
	t.Helper()
	if got != want {
		t.Errorf("%s: error %d, want %d", what, got, want)
	}
}

// wantDo: May lets an operation, and Do does it.
func wantDo(t *testing.T, what string, x *tree.Tree, op api.Op) tree.Undo {
	t.Helper()
	if !x.May(op) {
		t.Errorf("%s: May of %s: false", what, tell(op))
	}
	u, ok := x.Do(op)
	if !ok || u == (tree.Undo{}) {
		t.Errorf("%s: Do of %s: %v, a zero Undo: %v", what, tell(op), ok, u == (tree.Undo{}))
	}
	return u
}

// wantNotDone: neither May nor Do takes it, and nothing changes.
func wantNotDone(t *testing.T, what string, x *tree.Tree, op api.Op) {
	t.Helper()
	before, many := x.Nodes(), x.Len()
	if x.May(op) {
		t.Errorf("%s: May of %s: true", what, tell(op))
	}
	u, ok := x.Do(op)
	if ok || u != (tree.Undo{}) {
		t.Errorf("%s: Do of %s: %v, a zero Undo: %v", what, tell(op), ok, u == (tree.Undo{}))
	}
	wantNodes(t, what+": not taken", x, before)
	if x.Len() != many {
		t.Errorf("%s: Len was %d, and is %d", what, many, x.Len())
	}
}

// alike holds nodes against nodes without the help of the package.
func alike(a, b []api.TreeNode) bool {
	if len(a) != len(b) {
		return false
	}
	for i, x := range a {
		y := b[i]
		if !slices.Equal(x.Attrs, y.Attrs) {
			return false
		}
		x.Attrs, y.Attrs = nil, nil
		if !reflect.DeepEqual(x, y) {
			return false
		}
	}
	return true
}

func wantSame(t *testing.T, what string, got, want []api.TreeNode) {
	t.Helper()
	if !alike(got, want) {
		t.Errorf("%s: the nodes\n%+v, want\n%+v", what, got, want)
	}
}

func wantNodes(t *testing.T, what string, x *tree.Tree, want []api.TreeNode) {
	t.Helper()
	wantSame(t, what, x.Nodes(), want)
}

func wantNode(t *testing.T, what string, x *tree.Tree, want api.TreeNode) {
	t.Helper()
	got, is := x.Node(want.Node)
	if !is {
		t.Errorf("%s: Node(%d) is not there", what, want.Node)
		return
	}
	wantSame(t, what, []api.TreeNode{got}, []api.TreeNode{want})
}

func wantNoNode(t *testing.T, what string, x *tree.Tree, n int64) {
	t.Helper()
	if got, is := x.Node(n); is || got.Node != 0 || got.Parent != 0 || got.Name != "" || got.Attrs != nil {
		t.Errorf("%s: Node(%d): %v, %v, want none", what, n, got, is)
	}
}

func wantChildren(t *testing.T, what string, x *tree.Tree, n int64, want ...api.Child) {
	t.Helper()
	if got := x.Children(n); !slices.Equal(got, want) {
		t.Errorf("%s: Children(%d): %+v, want %+v", what, n, got, want)
	}
}

func wantLookup(t *testing.T, what string, x *tree.Tree, n int64, name string, want int64) {
	t.Helper()
	if got, is := x.Lookup(n, name); got != want || is != (want != 0) {
		t.Errorf("%s: Lookup(%d, %s): %d, %v, want %d", what, n, brief(name), got, is, want)
	}
}

func wantAttr(t *testing.T, what string, x *tree.Tree, n int64, key, want string) {
	t.Helper()
	if got, is := x.Attr(n, key); got != want || is != (want != "") {
		t.Errorf("%s: Attr(%d, %s): %s, %v, want %s", what, n, brief(key), brief(got), is, brief(want))
	}
}

func wantBelow(t *testing.T, what string, x *tree.Tree, n, above int64, want bool) {
	t.Helper()
	if got := x.Below(n, above); got != want {
		t.Errorf("%s: Below(%d, %d): %v", what, n, above, got)
	}
}

// step is what a walk tells.
type step struct {
	deep int
	node int64
}

func walked(x *tree.Tree, n int64) []step {
	var l []step
	for deep, k := range x.Walk(n) {
		l = append(l, step{deep, k})
	}
	return l
}

func wantWalk(t *testing.T, what string, x *tree.Tree, n int64, want ...step) {
	t.Helper()
	if got := walked(x, n); !slices.Equal(got, want) {
		t.Errorf("%s: Walk(%d): %v, want %v", what, n, got, want)
	}
}
