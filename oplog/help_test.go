package oplog_test

import (
	"fmt"
	"math"
	"reflect"
	"slices"
	"strings"
	"testing"

	"orchard/api"
	"orchard/oplog"
)

// The document's numbers, told anew.
const (
	root   = 1
	trash  = 2
	text   = 255 // bytes of a name, a key, a value
	latest = 1 << 40
	least  = math.MinInt64
	most   = math.MaxInt64
)

// source is a sequence that is the same in each run.
type source uint64

func (s *source) next() uint64 {
	*s = *s*6364136223846793005 + 1442695040888963407
	return uint64(*s >> 33)
}

func (s *source) below(n int) int { return int(s.next() % uint64(n)) }

func oneOf[T any](s *source, l []T) T { return l[s.below(len(l))] }

func shuffled[T any](s *source, l []T) []T {
	l = slices.Clone(l)
	for i := range l {
		j := i + s.below(len(l)-i)
		l[i], l[j] = l[j], l[i]
	}
	return l
}

func at(time int64, site int) api.Stamp { return api.Stamp{Time: time, Site: site} }

// nodeOf is the number of the node that time.site makes.
func nodeOf(time int64, site int) int64 { return 16 + time*8 + int64(site) }

func aMake(time int64, site int, parent int64, name string) api.Op {
	return api.Op{Stamp: at(time, site), Kind: api.OpMake, Node: nodeOf(time, site), Parent: parent, Name: name}
}

func aMove(time int64, site int, node, parent int64, name string) api.Op {
	return api.Op{Stamp: at(time, site), Kind: api.OpMove, Node: node, Parent: parent, Name: name}
}

func anAttr(time int64, site int, node int64, key, value string) api.Op {
	return api.Op{Stamp: at(time, site), Kind: api.OpAttr, Node: node, Key: key, Value: value}
}

func long(n int) string { return strings.Repeat("n", n) }

func node(n, parent int64, name string, attrs ...api.Attr) api.TreeNode {
	return api.TreeNode{Node: n, Parent: parent, Name: name, Attrs: attrs}
}

func attr(key, value string) api.Attr { return api.Attr{Key: key, Value: value} }

// The nodes that the operations of ab make.
const (
	a = 24 // 1.0
	b = 32 // 2.0
)

// ab are operations of two sites: a and b are made and named, a comes under b, and goes back.
func ab() []api.Op {
	return []api.Op{
		aMake(1, 0, root, "a"),
		aMake(2, 0, root, "b"),
		anAttr(2, 1, a, "k", "v"),
		aMove(3, 0, a, b, "a"),
		aMove(3, 1, b, a, "b"),
		anAttr(4, 0, b, "k", "w"),
		aMove(5, 1, a, root, "c"),
		anAttr(6, 0, a, "k", ""),
	}
}

// some are nodes with attributes at the root, at the trash and at others, some of them with numbers that no operation makes.
func some() []api.TreeNode {
	return []api.TreeNode{
		node(root, 0, "", attr("a", "of the root"), attr("b", "2")),
		node(trash, 0, "", attr("k", "of the trash")),
		node(3, root, "three"),
		node(a, b, "a", attr("A", "1"), attr("a", "2"), attr("aa", "3")),
		node(b, root, "b", attr("k", "v")),
		node(nodeOf(3, 0), root, "b"),
		node(nodeOf(3, 1), a, "b"),
		node(nodeOf(4, 7), trash, "z", attr(long(text), long(text))),
		node(most, nodeOf(4, 7), long(text)),
	}
}

func newOne(t *testing.T) *oplog.Log {
	t.Helper()
	l := oplog.New()
	if l == nil {
		t.Fatal("New: nil")
	}
	return l
}

func made(t *testing.T, base []api.TreeNode, frontier int64, ops ...api.Op) *oplog.Log {
	t.Helper()
	l, err := oplog.From(base, frontier, ops)
	if l == nil || err != api.OK {
		t.Fatalf("From at %d: error %d, a log: %v", frontier, err, l != nil)
	}
	return l
}

func grown(t *testing.T, ops ...api.Op) *oplog.Log {
	t.Helper()
	l := newOne(t)
	add(t, "grown", l, ops...)
	return l
}

// add is an Add that must be taken in.
func add(t *testing.T, what string, l *oplog.Log, ops ...api.Op) int {
	t.Helper()
	n, err := l.Add(ops...)
	if err != api.OK {
		t.Fatalf("%s: Add of %s: error %d", what, tellAll(ops), err)
	}
	return n
}

// wantAdd: so many of them are taken.
func wantAdd(t *testing.T, what string, l *oplog.Log, want int, ops ...api.Op) {
	t.Helper()
	if got := add(t, what, l, ops...); got != want {
		t.Errorf("%s: of %s %d are taken, want %d", what, tellAll(ops), got, want)
	}
}

// wantNoAdd: an error, and nothing has changed.
func wantNoAdd(t *testing.T, what string, l *oplog.Log, want api.Errno, ops ...api.Op) {
	t.Helper()
	before := faceOf(l)
	if n, err := l.Add(ops...); n != 0 || err != want {
		t.Errorf("%s: Add of %s: %d, error %d, want %d", what, tellAll(ops), n, err, want)
	}
	wantFace(t, what+": an error changes nothing", l, before)
}

// wantNoFrom: an error, and no log.
func wantNoFrom(t *testing.T, what string, want api.Errno, base []api.TreeNode, frontier int64, ops ...api.Op) {
	t.Helper()
	if l, err := oplog.From(base, frontier, ops); l != nil || err != want {
		t.Errorf("%s: From at %d: a log: %v, error %d, want %d", what, frontier, l != nil, err, want)
	}
}

func cut(t *testing.T, l *oplog.Log, time int64) {
	t.Helper()
	if err := l.Cut(time); err != api.OK {
		t.Fatalf("Cut(%d): error %d", time, err)
	}
}

func wantErr(t *testing.T, what string, got, want api.Errno) {
	t.Helper()
	if got != want {
		t.Errorf("%s: error %d, want %d", what, got, want)
	}
}

func wantWould(t *testing.T, what string, l *oplog.Log, op api.Op, want bool) {
	t.Helper()
	if got, err := l.Would(op); got != want || err != api.OK {
		t.Errorf("%s: Would(%s): %v, error %d, want %v", what, tell(op), got, err, want)
	}
}

func wantRedone(t *testing.T, what string, l *oplog.Log, want int) {
	t.Helper()
	if got := l.Redone(); got != want {
		t.Errorf("%s: Redone: %d, want %d", what, got, want)
	}
}

func brief(s string) string {
	if len(s) > 24 {
		return fmt.Sprintf("%q.. (%d bytes)", s[:12], len(s))
	}
	return fmt.Sprintf("%q", s)
}

func tell(op api.Op) string {
	return fmt.Sprintf("{%d.%d Kind %d Node %d Parent %d Name %s Key %s Value %s}", op.Stamp.Time, op.Stamp.Site, op.Kind, op.Node, op.Parent, brief(op.Name), brief(op.Key), brief(op.Value))
}

func tellAll(ops []api.Op) string {
	if len(ops) > 8 {
		return fmt.Sprint(len(ops), " operations")
	}
	var l []string
	for _, op := range ops {
		l = append(l, tell(op))
	}
	return strings.Join(l, ", ")
}

// told is what Ops tells of one operation.
type told struct {
	op    api.Op
	taken bool
}

func opsOf(l *oplog.Log) []told {
	var all []told
	for op, taken := range l.Ops() {
		all = append(all, told{op, taken})
	}
	return all
}

// opsAlone are the operations, without whether they are taken.
func opsAlone(l *oplog.Log) []api.Op {
	var all []api.Op
	for op := range l.Ops() {
		all = append(all, op)
	}
	return all
}

// takenOf are the stamps of the operations that are taken.
func takenOf(l *oplog.Log) []api.Stamp {
	var all []api.Stamp
	for op, taken := range l.Ops() {
		if taken {
			all = append(all, op.Stamp)
		}
	}
	return all
}

// face is all that a log tells.
type face struct {
	frontier int64
	ops      []told
	nodes    []api.TreeNode
	base     []api.TreeNode
	redone   int
}

func faceOf(l *oplog.Log) face {
	return face{l.Frontier(), opsOf(l), l.Tree().Nodes(), l.Base(), l.Redone()}
}

func wantFace(t *testing.T, what string, l *oplog.Log, want face) {
	t.Helper()
	wantRedone(t, what, l, want.redone)
	wantAlike(t, what, l, want)
}

// wantAlike holds logs against each other but for Redone, which hangs on how they came to be.
func wantAlike(t *testing.T, what string, l *oplog.Log, want face) {
	t.Helper()
	if l.Frontier() != want.frontier {
		t.Errorf("%s: Frontier: %d, want %d", what, l.Frontier(), want.frontier)
	}
	if l.Len() != len(want.ops) {
		t.Errorf("%s: Len: %d, want %d", what, l.Len(), len(want.ops))
	}
	if got := opsOf(l); !slices.Equal(got, want.ops) {
		t.Errorf("%s: Ops:\n%+v, want\n%+v", what, got, want.ops)
	}
	wantNodes(t, what+": Tree", l.Tree().Nodes(), want.nodes)
	wantNodes(t, what+": Base", l.Base(), want.base)
}

// alike holds nodes against nodes without the help of package tree.
func alike(x, y []api.TreeNode) bool {
	return slices.EqualFunc(x, y, func(m, n api.TreeNode) bool {
		same := slices.Equal(m.Attrs, n.Attrs)
		m.Attrs, n.Attrs = nil, nil
		return same && reflect.DeepEqual(m, n)
	})
}

func wantNodes(t *testing.T, what string, got, want []api.TreeNode) {
	t.Helper()
	if !alike(got, want) {
		t.Errorf("%s: the nodes\n%+v, want\n%+v", what, got, want)
	}
}

func wantTree(t *testing.T, what string, l *oplog.Log, want ...api.TreeNode) {
	t.Helper()
	wantNodes(t, what+": Tree", l.Tree().Nodes(), want)
}

func wantBase(t *testing.T, what string, l *oplog.Log, want ...api.TreeNode) {
	t.Helper()
	wantNodes(t, what+": Base", l.Base(), want)
}

func wantTaken(t *testing.T, what string, l *oplog.Log, want ...api.Stamp) {
	t.Helper()
	if got := takenOf(l); !slices.Equal(got, want) {
		t.Errorf("%s: taken are %v, want %v", what, got, want)
	}
}

// orders are all orders of a list.
func orders[T any](l []T) [][]T {
	if len(l) == 0 {
		return [][]T{nil}
	}
	var all [][]T
	for i, x := range l {
		for _, rest := range orders(slices.Delete(slices.Clone(l), i, i+1)) {
			all = append(all, append([]T{x}, rest...))
		}
	}
	return all
}

// pieces are a list in pieces: behind the i-th one a piece ends, if the bit i of ends is set.
func pieces[T any](l []T, ends int) [][]T {
	var all [][]T
	begun := 0
	for i := range l {
		if ends&(1<<i) != 0 || i == len(l)-1 {
			all = append(all, l[begun:i+1])
			begun = i + 1
		}
	}
	return all
}
