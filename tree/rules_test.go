package tree_test

import (
	"fmt"
	"reflect"
	"slices"
	"strings"
	"testing"
	"time"
	"unsafe"

	"orchard/api"
	"orchard/tree"
)

// R2, that an error changes nothing, stands in the tests of the calls; here, what no call made, what is shared, nil lists, the same again, any arguments, and THE BOUND.

// R5: a tree that no call made.

func TestTreesThatNoCallMade(t *testing.T) {
	x := made(t, some())
	used := wantDo(t, "a make", x, aMake(10, root, "a"))
	for _, none := range []*tree.Tree{nil, {}} {
		for _, op := range append(eachKind(), aMake(5, root, "a"), aMove(5, root, "a"), anAttr(root, "k", "v"), api.Op{}) {
			if none.May(op) {
				t.Error("May of", tell(op))
			}
			if u, ok := none.Do(op); ok || u != (tree.Undo{}) {
				t.Error("Do of", tell(op))
			}
		}
		wantErr(t, "Back of the zero Undo", none.Back(tree.Undo{}), api.ErrMade)
		wantErr(t, "Back of one of another tree", none.Back(used), api.ErrMade)
		for _, n := range numbers() {
			wantNoNode(t, "no tree", none, n)
			wantLookup(t, "no tree", none, n, "a", 0)
			wantAttr(t, "no tree", none, n, "k", "")
			if l := none.Children(n); l != nil {
				t.Error("Children", l)
			}
			for _, above := range numbers() {
				wantBelow(t, "no tree", none, n, above, false)
			}
			if none.Walk(n) == nil {
				t.Fatal("there is no iterator")
			}
			wantWalk(t, "no tree", none, n)
		}
		if l := none.Nodes(); l != nil || none.Len() != 0 || none.Clone() != nil {
			t.Error("Nodes", l, "Len", none.Len(), "Clone", none.Clone())
		}
		if none != nil && !reflect.ValueOf(*none).IsZero() {
			t.Error("a zero tree has become another one")
		}
	}
	wantErr(t, "it is still the last one of its tree", x.Back(used), api.OK)
}

// R3: what is handed in or answered, and then written to.

func spoilAttrs(l []api.Attr) {
	l = l[:cap(l)]
	for i := range l {
		l[i] = attr("spoilt", "spoilt")
	}
}

func spoil(l []api.TreeNode) {
	for _, x := range l {
		_ = append(x.Attrs, attr("more", "more"))
		spoilAttrs(x.Attrs)
	}
	l = l[:cap(l)]
	for i := range l {
		l[i] = node(-1, -1, "spoilt")
	}
}

func TestWhatIsHandedInStaysAsItIs(t *testing.T) {
	l := some()
	x := made(t, l)
	for _, op := range eachKind() {
		x.Do(op)
	}
	spoil(x.Nodes())
	spoil(x.Clone().Nodes())
	tree.Same(l, x.Nodes())
	wantNoTree(t, "a ring", with(5, func(x *api.TreeNode) { x.Parent = 9 }))
	wantSame(t, "what was handed to From", l, some())
	bad := some()
	bad[len(bad)-1].Name = ""
	wantNoTree(t, "no name", bad)
	bad[len(bad)-1].Name = long(text)
	wantSame(t, "what was handed to a From that took it not", bad, some())
}

func TestWhatIsHandedInIsNotKept(t *testing.T) {
	l := some()
	x := made(t, l)
	spoil(l)
	wantFace(t, "the list of From is written to", x, modelOf(some()))
	op := aMake(10, root, "a")
	u := wantDo(t, "a make", x, op)
	op.Node, op.Parent, op.Name = 11, trash, "b"
	wantNode(t, "the operation is written to", x, node(10, root, "a"))
	wantErr(t, "Back", x.Back(u), api.OK)
	wantFace(t, "taken back", x, modelOf(some()))
	change := anAttr(5, "a", "other")
	u = wantDo(t, "an attribute", x, change)
	change.Key, change.Value, change.Node = "b", "", 6
	wantErr(t, "Back", x.Back(u), api.OK)
	wantFace(t, "taken back", x, modelOf(some()))
}

// TestTextsThatAreWrittenTo: names, keys and values whose bytes their owner changes behind the call.
func TestTextsThatAreWrittenTo(t *testing.T) {
	var b []byte
	owned := func(s string) string {
		b = append(make([]byte, 0, len(s)), s...)
		return unsafe.String(&b[0], len(b))
	}
	change := func() {
		for i := range b {
			b[i] = '/'
		}
	}
	x := newOne(t)
	all := owned("name-key-value-other")
	u := wantDo(t, "a make", x, aMake(5, root, all[:4]))
	v := wantDo(t, "an attribute", x, anAttr(5, all[5:8], all[9:14]))
	w := wantDo(t, "a move", x, aMove(5, trash, all[15:]))
	change()
	wantFace(t, "the bytes of Do's texts are written to", x, modelOf([]api.TreeNode{node(5, trash, "other", attr("key", "value"))}))
	wantErr(t, "Back", x.Back(w), api.OK)
	wantFace(t, "the bytes are written to, and Back", x, modelOf([]api.TreeNode{node(5, root, "name", attr("key", "value"))}))
	wantErr(t, "Back", x.Back(v), api.OK)
	wantFace(t, "the bytes are written to, and Back", x, modelOf([]api.TreeNode{node(5, root, "name")}))
	wantErr(t, "Back", x.Back(u), api.OK)
	wantFace(t, "the bytes are written to, and Back", x, newModel())
	all = owned("name-key-value")
	y := made(t, []api.TreeNode{node(root, 0, "", attr(all[5:8], all[9:])), node(5, root, all[:4])})
	change()
	wantFace(t, "the bytes of From's texts are written to", y, modelOf([]api.TreeNode{node(root, 0, "", attr("key", "value")), node(5, root, "name")}))
}

// TestOneListForSeveralNodes: attributes that are handed in as one list are those of each.
func TestOneListForSeveralNodes(t *testing.T) {
	attrs := []api.Attr{attr("k", "v"), attr("l", "w")}
	x := made(t, []api.TreeNode{node(root, 0, "", attrs...), node(5, root, "a", attrs...), node(6, root, "b", attrs[:1]...)})
	wantDo(t, "one of them", x, anAttr(5, "k", "other"))
	wantNodes(t, "the others", x, []api.TreeNode{node(root, 0, "", attr("k", "v"), attr("l", "w")), node(5, root, "a", attr("k", "other"), attr("l", "w")), node(6, root, "b", attr("k", "v"))})
}

// TestWhatIsAnsweredIsNobodysElse: neither the tree's nor its clone's nor that of another answer.
func TestWhatIsAnsweredIsNobodysElse(t *testing.T) {
	x := made(t, some())
	c := x.Clone()
	for _, from := range []*tree.Tree{x, c} {
		one, other := from.Nodes(), from.Nodes()
		for i := range one {
			_ = append(one[i].Attrs, attr("more", "more"))
			spoilAttrs(one[i].Attrs)
			wantSame(t, "one node is written to: the nodes behind it", one[i+1:], some()[i+1:])
		}
		spoil(one)
		wantSame(t, "another answer", other, some())
		for _, n := range some() {
			one, _ := from.Node(n.Node)
			other, _ := from.Node(n.Node)
			_ = append(one.Attrs, attr("more", "more"))
			spoilAttrs(one.Attrs)
			wantSame(t, "another answer", []api.TreeNode{other}, []api.TreeNode{n})
			children, same := from.Children(n.Node), from.Children(n.Node)
			want := slices.Clone(same)
			children = children[:cap(children)]
			for i := range children {
				children[i] = api.Child{Name: "spoilt", Node: -1}
			}
			if !slices.Equal(same, want) {
				t.Error("another answer of Children is written to, too")
			}
		}
		wantFace(t, "answers are written to", x, modelOf(some()))
		wantFace(t, "answers are written to", c, modelOf(some()))
	}
}

// TestWhatIsAnsweredStays: whatever is done behind it.
func TestWhatIsAnsweredStays(t *testing.T) {
	for _, op := range eachKind() {
		x := made(t, some())
		nodes, children := x.Nodes(), x.Children(root)
		want := slices.Clone(children)
		wantDo(t, "behind the answers", x, op)
		wantSame(t, "Nodes of before", nodes, some())
		if !slices.Equal(children, want) {
			t.Error("Children of before have changed:", children)
		}
	}
}

// TestWalksTellWhatWasThere: whatever comes behind the asking, even in the midst of the telling.
func TestWalksTellWhatWasThere(t *testing.T) {
	want := walked(made(t, some()), root)
	collect := func(walk func(func(int, int64) bool)) []step {
		var l []step
		for deep, n := range walk {
			l = append(l, step{deep, n})
		}
		return l
	}
	for _, op := range eachKind() {
		x := made(t, some())
		walk := x.Walk(root)
		u := wantDo(t, "behind the asking", x, op)
		if got := collect(walk); !slices.Equal(got, want) {
			t.Errorf("behind the asking %s: %v, want %v", tell(op), got, want)
		}
		wantErr(t, "Back", x.Back(u), api.OK)
		if got := collect(walk); !slices.Equal(got, want) {
			t.Errorf("Back of %s: %v, want %v", tell(op), got, want)
		}
		var got []step
		for deep, n := range x.Walk(root) {
			if len(got) == 2 {
				wantDo(t, "in the midst", x, op)
			}
			got = append(got, step{deep, n})
		}
		if !slices.Equal(got, want) {
			t.Errorf("in the midst %s: %v, want %v", tell(op), got, want)
		}
	}
	x := newOne(t)
	none := x.Walk(5)
	wantDo(t, "a make", x, aMake(5, root, "a"))
	if got := collect(none); got != nil {
		t.Error("it was not there, and is told", got)
	}
}

// R4.

func TestNilAndEmptyLists(t *testing.T) {
	for _, l := range [][]api.TreeNode{nil, {}, some()[:0]} {
		wantTree(t, "no nodes", l)
	}
	for _, attrs := range [][]api.Attr{nil, {}, {attr("k", "v")}} {
		l := []api.TreeNode{{Node: root, Attrs: attrs[:0]}, {Node: 5, Parent: root, Name: "a", Attrs: attrs[:0]}}
		wantNodes(t, "no attributes", made(t, l), []api.TreeNode{node(5, root, "a")})
	}
}

// R6.

func TestSameCallsAnswerTheSame(t *testing.T) {
	run := func() []string {
		s := source(7)
		d := begin(t, &s)
		var answers []string
		for range 300 {
			told := d.step(t, "the same again")
			answers = append(answers, fmt.Sprint(told, d.x.Nodes(), d.x.Children(root), d.x.Children(trash), walked(d.x, root)))
		}
		return answers
	}
	answers := run()
	for range 5 {
		if !slices.Equal(run(), answers) {
			t.Fatal("the same calls answer otherwise")
		}
	}
}

// R1: every call ends at all arguments; what it answers is held against the words elsewhere.

func TestAnyArguments(t *testing.T) {
	s := source(3)
	texts := append(append(goodTexts(), badNames()...), "\xed\xa0\x80", strings.Repeat("\x00", 1<<16))
	whole := func() int64 { return int64(s.next()<<33 ^ s.next()) }
	for _, x := range []*tree.Tree{nil, {}, newOne(t), made(t, some())} {
		for range 3000 {
			n, m, one, other := whole(), whole(), oneOf(&s, texts), oneOf(&s, texts)
			if s.below(2) == 0 {
				n, m = oneOf(&s, numbers()), oneOf(&s, numbers())
			}
			op := api.Op{Kind: s.below(6) - 1, Node: n, Parent: m, Name: one, Key: other, Value: one, Stamp: api.Stamp{Time: m, Site: int(n)}}
			may := x.May(op)
			if _, ok := x.Do(op); ok != may {
				t.Fatalf("May of %s: %v, Do: %v", tell(op), may, ok)
			}
			x.Node(n)
			x.Children(n)
			x.Lookup(n, one)
			x.Attr(n, other)
			x.Below(n, m)
			walked(x, m)
			tree.Name(one)
			l := []api.TreeNode{node(n, m, one, attr(one, other)), node(m, n, other)}
			if made, err := tree.From(l); (err == api.OK) != isTree(l) || (made == nil) != (err != api.OK) {
				t.Fatalf("From of %+v: error %d", l, err)
			}
			tree.Same(l, x.Nodes())
		}
		if x != nil && x.Len() > 0 {
			wantATree(t, "any arguments", x)
		}
	}
}

// THE BOUND: calls of a tree with many nodes; one that is not near-linear would take many times as long.

const longTime = 20 * time.Second

func wantSoon(t *testing.T, what string, call func()) {
	t.Helper()
	begun := time.Now()
	call()
	if took := time.Since(begun); took > longTime {
		t.Errorf("%s took %v", what, took)
	}
}

const many = 100_000

// shapes are parents of many nodes: a chain either way, a broad tree, a binary one, one with many of one name.
func shapes() map[string]func(n int64) (int64, string) {
	return map[string]func(n int64) (int64, string){
		"a chain": func(n int64) (int64, string) {
			if n == 3 {
				return root, "a"
			}
			return n - 1, "a"
		},
		"a chain backwards": func(n int64) (int64, string) {
			if n == many+2 {
				return trash, "a"
			}
			return n + 1, "a"
		},
		"broad":    func(n int64) (int64, string) { return root, fmt.Sprint(n * 7919 % many) },
		"binary":   func(n int64) (int64, string) { return max(root, n/2), fmt.Sprint(n % 2) },
		"one name": func(int64) (int64, string) { return trash, "a" },
	}
}

func TestManyNodes(t *testing.T) {
	for what, shape := range shapes() {
		var l []api.TreeNode
		for n := int64(3); n < many+3; n++ {
			parent, name := shape(n)
			l = append(l, node(n, parent, name))
		}
		wantSoon(t, what, func() {
			x := made(t, l)
			c := x.Clone()
			if !tree.Same(c.Nodes(), l) || x.Len() != many+2 {
				t.Error(what, ": the nodes are others, Len", x.Len())
			}
			if n := len(walked(x, root)) + len(walked(x, trash)); n != many+2 {
				t.Error(what, ": the walks have", n)
			}
			if len(x.Children(root))+len(x.Children(trash)) == 0 {
				t.Error(what, ": no children")
			}
			for range 20 {
				for _, n := range []int64{3, 4, many / 2, many + 1, many + 2} {
					x.Below(n, root)
					x.May(aMove(n, many/3, "b"))
					x.Lookup(n, "a")
				}
			}
		})
	}
}

// TestManyRings: a long ring, and many short ones, are told as soon.
func TestManyRings(t *testing.T) {
	for _, size := range []int64{1, 2, 1000, many} {
		var l []api.TreeNode
		for n := range int64(many) {
			l = append(l, node(3+n, 3+n/size*size+(n+1)%size, "a"))
		}
		wantSoon(t, "rings", func() {
			if x, err := tree.From(l); x != nil || err != api.ErrTree {
				t.Error("rings of", size, ": error", err)
			}
		})
	}
}

func TestManyDosAndBacks(t *testing.T) {
	for what, shape := range shapes() {
		if what == "a chain backwards" {
			continue // its parents come behind what stands under them
		}
		x := newOne(t)
		var undos []tree.Undo
		do := func(op api.Op) {
			u, ok := x.Do(op)
			if !ok {
				t.Fatalf("%s: %s is not taken", what, tell(op))
			}
			undos = append(undos, u)
		}
		wantSoon(t, what, func() {
			for n := int64(3); n < many+3; n++ {
				parent, name := shape(n)
				do(aMake(n, parent, name))
				do(anAttr(n, "k", "v"))
				do(anAttr(root, fmt.Sprint(n*7919%many), "v"))
			}
			for n := int64(many + 2); n > many; n-- {
				do(aMove(n, trash, "b"))
			}
			for i := len(undos) - 1; i >= 0; i-- {
				if err := x.Back(undos[i]); err != api.OK {
					t.Fatalf("%s: Back of %d: error %d", what, i, err)
				}
			}
			wantNodes(t, what, x, nil)
		})
	}
}

// TestManyAttributes: of one node.
func TestManyAttributes(t *testing.T) {
	var attrs []api.Attr
	for i := range many {
		attrs = append(attrs, attr(fmt.Sprintf("%06d", i), "v"))
	}
	wantSoon(t, "many attributes", func() {
		l := []api.TreeNode{node(5, root, "a", attrs...)}
		x := made(t, l)
		wantNodes(t, "many attributes", x, l)
		wantNodes(t, "many attributes, a clone", x.Clone(), l)
		s := source(4)
		y := grown(t, aMake(5, root, "a"))
		for _, a := range shuffled(&s, attrs) {
			y.Do(anAttr(5, a.Key, a.Value))
		}
		wantNodes(t, "many attributes, one by one", y, l)
	})
}

func TestLongTexts(t *testing.T) {
	far := strings.Repeat("/.", 1<<25)
	x := newOne(t)
	wantSoon(t, "long texts", func() {
		wantName(t, far, false)
		wantNotDone(t, "a long name", x, aMake(5, root, far))
		wantNotDone(t, "a long key", x, anAttr(root, far, "v"))
		wantNotDone(t, "a long value", x, anAttr(root, "k", far))
		wantLookup(t, "a long name", x, root, far, 0)
		wantAttr(t, "a long key", x, root, far, "")
		if _, err := tree.From([]api.TreeNode{node(5, root, far, attr(far, far))}); err != api.ErrTree {
			t.Error("long texts: error", err)
		}
		op := aMake(5, root, "a")
		op.Key, op.Value = far, far
		wantDo(t, "long texts that are not looked at", x, op)
	})
}
