package snap_test

import (
	"bytes"
	"fmt"
	"reflect"
	"strings"
	"testing"

	"orchard/api"
	"orchard/snap"
)

// The document's numbers, told anew.
const (
	root     = 1
	trash    = 2
	latest   = 1 << 40 // a count
	mostNode = 1 << 50
	sites    = 8
	members  = 1 << 16 // of a list
	sessions = 64
	text     = 255     // bytes of a name, a key, a value
	data     = 1 << 14 // bytes of a part
	mostMany = 1 << 12 // parts of a snapshot
	mostForm = 1 << 20 // bytes of a form
)

// source is a sequence that is the same in each run.
type source uint64

func (s *source) next() uint64 {
	*s = *s*6364136223846793005 + 1442695040888963407
	return uint64(*s >> 33)
}

func (s *source) below(n int) int { return int(s.next() % uint64(n)) }

func oneOf[T any](s *source, l []T) T { return l[s.below(len(l))] }

func at(time int64, site int) api.Stamp { return api.Stamp{Time: time, Site: site} }

// nodeOf is the number of the node that time.site makes.
func nodeOf(time int64, site int) int64 { return 16 + time*8 + int64(site) }

func aMake(time int64, site int, parent int64, name string) api.Op {
	return api.Op{Stamp: at(time, site), Kind: api.OpMake, Node: nodeOf(time, site), Parent: parent, Name: name}
}

func aMove(time int64, site int, node, parent int64, name string) api.Op {
	return api.Op{Stamp: at(time, site), Kind: api.OpMove, Node: node, Parent: parent, Name: name}
}

func anAttr(time int64, site int, node int64, key, value string) api.Op {
	return api.Op{Stamp: at(time, site), Kind: api.OpAttr, Node: node, Key: key, Value: value}
}

// anOp is an operation that may be, of the kind n of the three.
func anOp(n int, time int64, site int) api.Op {
	switch n % 3 {
	case 0:
		return aMake(time, site, root, "made")
	case 1:
		return aMove(time, site, nodeOf(1, 0), trash, "moved")
	}
	return anAttr(time, site, root, "k", "v")
}

// opsOf are n operations of a site with times that rise from one on.
func opsOf(site, n int, time int64) []api.Op {
	var l []api.Op
	for i := range n {
		l = append(l, anOp(i, time+int64(i), site))
	}
	return l
}

func long(n int) string { return strings.Repeat("n", n) }

func node(n, parent int64, name string, attrs ...api.Attr) api.TreeNode {
	return api.TreeNode{Node: n, Parent: parent, Name: name, Attrs: attrs}
}

func attr(key, value string) api.Attr { return api.Attr{Key: key, Value: value} }

// numbers is a vector whose places have unlike numbers, from one on.
func numbers(from int64) api.Vector {
	var v api.Vector
	for i := range v {
		v[i] = from + int64(i)
	}
	return v
}

func someNodes() []api.TreeNode {
	return []api.TreeNode{
		node(root, 0, "", attr("a", "of the root"), attr("b", "2")),
		node(trash, 0, "", attr("k", "\xff\x00")),
		node(24, root, "a"),
		node(32, 40, "b", attr("k", "v")),
		node(40, 24, "a", attr("A", "1"), attr("a", "2"), attr("aa", "3")),
		node(41, trash, "away"),
		node(1<<49, root, "far"),
	}
}

func someLog() []api.Op {
	return []api.Op{
		aMake(21, 0, root, "c"),
		aMove(21, 3, nodeOf(21, 0), 24, "d"),
		anAttr(22, 1, root, "k", "v"),
		anAttr(30, 7, trash, "gone", ""),
		aMake(31, 2, nodeOf(21, 0), "\xffe"),
	}
}

func someRows() []api.Row {
	return []api.Row{
		{Session: 5, Request: 17, Reply: api.Reply{Stamp: at(21, 3), Node: 184}},
		{Session: 13, Request: 1, Reply: api.Reply{Err: api.ErrGuard}},
		{Session: 21, Request: 80, Reply: api.Reply{Err: 999, Stamp: at(77, 5), Node: 633}},
	}
}

func someParts() []api.Part {
	return []api.Part{
		{Snap: 8, Index: 2, Many: 5, Data: []byte{0, 128, 255}},
		{Snap: 9, Index: 2, Many: 6, Data: []byte("part")},
	}
}

// whole is a state with something in every field and in every list, made anew at each call. No two neighbours have one number.
func whole() api.Snap {
	s := api.Snap{
		Site: 5, Applied: 300, Booted: true, Clock: 701, Frontier: 20,
		Epoch: api.Epoch{
			Number:  9,
			States:  [sites]int{1, 2, 3, 0, 1, 0, 2, 1},
			Seals:   numbers(100),
			Sponsor: [sites]int{-1, 6, 0, 3, 7, 4, 2, 1},
		},
		Last: numbers(200), Starts: numbers(310), Told: numbers(400), Clocks: numbers(500), Sure: numbers(600),
		Base: someNodes(), Log: someLog(), Rows: someRows(), Parts: someParts(),
	}
	for site := range sites {
		s.Known[site] = numbers(int64(1000 + 100*site))
		keep(&s, site, opsOf(site, 1+site%3, int64(3+site)))
	}
	return s
}

// keep lets a state keep operations of a site, and know so many of it.
func keep(s *api.Snap, site int, l []api.Op) {
	s.Kept[site] = l
	s.Vector[site] = s.Starts[site] + int64(len(l))
}

// changed is a whole state, but for what change does to it.
func changed(change func(s *api.Snap)) api.Snap {
	s := whole()
	change(&s)
	return s
}

// bare is the zero state, but for what change does to it.
func bare(change func(s *api.Snap)) api.Snap {
	var s api.Snap
	change(&s)
	return s
}

func wantErr(t *testing.T, what string, got, want api.Errno) {
	t.Helper()
	if got != want {
		t.Errorf("%s: error %d, want %d", what, got, want)
	}
}

func wantBytes(t *testing.T, what string, got, want []byte) {
	t.Helper()
	if bytes.Equal(got, want) {
		return
	}
	i := 0
	for i < min(len(got), len(want)) && got[i] == want[i] {
		i++
	}
	t.Errorf("%s: %d bytes, want %d; from %d on %v, want %v", what, len(got), len(want), i, got[i:min(len(got), i+20)], want[i:min(len(want), i+20)])
}

// wantSame holds states against each other by themselves, not by the package; nil and empty lists are the same.
func wantSame(t *testing.T, what string, got, want api.Snap) {
	t.Helper()
	if !bytes.Equal(modelForm(got), modelForm(want)) {
		t.Errorf("%s: %s, want %s", what, tell(got), tell(want))
	}
}

// tell is the beginning of what a value is.
func tell(v any) string {
	text := fmt.Sprintf("%+v", v)
	if len(text) > 2000 {
		return text[:2000] + " .."
	}
	return text
}

// wantNone: with an error every other result is the zero value.
func wantNone(t *testing.T, what string, v any) {
	t.Helper()
	if !reflect.ValueOf(v).IsZero() {
		t.Errorf("%s: with an error it answers %s", what, tell(v))
	}
}

func formOf(t *testing.T, s api.Snap) []byte {
	t.Helper()
	b, err := snap.Marshal(s)
	if err != api.OK {
		t.Fatalf("Marshal: error %d of %s", err, tell(s))
	}
	return b
}

func wantUnmarshalErr(t *testing.T, what string, b []byte, want api.Errno) {
	t.Helper()
	s, err := snap.Unmarshal(b)
	wantErr(t, "Unmarshal: "+what, err, want)
	if err != api.OK {
		wantNone(t, "Unmarshal: "+what, s)
	}
}

// wantMayBe: the state may be, and is written and read as the model's form.
func wantMayBe(t *testing.T, what string, s api.Snap) {
	t.Helper()
	wantErr(t, "Check: "+what, snap.Check(s), api.OK)
	b, err := snap.Marshal(s)
	wantErr(t, "Marshal: "+what, err, api.OK)
	wantBytes(t, "Marshal: "+what, b, modelForm(s))
	got, err := snap.Unmarshal(modelForm(s))
	wantErr(t, "Unmarshal: "+what, err, api.OK)
	if err == api.OK {
		wantSame(t, "Unmarshal: "+what, got, s)
	}
}

// wantMayNot: the state may not be: it is neither written, nor read from its form.
func wantMayNot(t *testing.T, what string, s api.Snap) {
	t.Helper()
	wantErr(t, "Check: "+what, snap.Check(s), api.ErrSnap)
	b, err := snap.Marshal(s)
	wantErr(t, "Marshal: "+what, err, api.ErrSnap)
	wantNone(t, "Marshal: "+what, b)
	wantUnmarshalErr(t, what, modelForm(s), api.ErrSnap)
}

func wantState(t *testing.T, what string, s api.Snap, ok bool) {
	t.Helper()
	if ok {
		wantMayBe(t, what, s)
	} else {
		wantMayNot(t, what, s)
	}
}
