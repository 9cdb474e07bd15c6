package oplog_test

import (
	"fmt"
	"reflect"
	"slices"
	"strings"
	"testing"
	"time"
	"unsafe"

	"orchard/api"
	"orchard/oplog"
)

// R2, that an error changes nothing, stands in the tests of the calls; here, what no call made, what is shared, nil lists, the same again, any arguments, and THE BOUND.

// R5: a log that no call made.

func TestLogsThatNoCallMade(t *testing.T) {
	for _, none := range []*oplog.Log{nil, {}} {
		for _, l := range [][]api.Op{nil, {}, ab(), {{}}, {aMake(1, 0, root, "a"), aMake(1, 0, root, "a")}} {
			if n, err := none.Add(l...); n != 0 || err != api.ErrMade {
				t.Error("Add:", n, "error", err)
			}
		}
		for _, time := range []int64{least, -1, 0, 1, latest, latest + 1, most} {
			wantErr(t, "Cut", none.Cut(time), api.ErrMade)
		}
		ops := append(ab(), api.Op{})
		for _, w := range wrongs(3, 3) {
			ops = append(ops, w.op)
		}
		for _, op := range ops {
			if yes, err := none.Would(op); yes || err != api.ErrMade {
				t.Error("Would:", yes, "error", err)
			}
		}
		if none.Frontier() != 0 || none.Len() != 0 || none.Redone() != 0 {
			t.Error("Frontier", none.Frontier(), "Len", none.Len(), "Redone", none.Redone())
		}
		if none.Tree() != nil || none.Base() != nil || none.Clone() != nil {
			t.Error("Tree", none.Tree(), "Base", none.Base(), "Clone", none.Clone())
		}
		if none.Ops() == nil {
			t.Fatal("there is no iterator")
		}
		if l := opsOf(none); l != nil {
			t.Error("Ops tells", l)
		}
		if none != nil && !reflect.ValueOf(*none).IsZero() {
			t.Error("a zero log has become another one")
		}
	}
}

// R3: what is handed in or answered, and then written to.

func spoil(l []api.TreeNode) {
	for _, x := range l {
		_ = append(x.Attrs, attr("more", "more"))
		attrs := x.Attrs[:cap(x.Attrs)]
		for i := range attrs {
			attrs[i] = attr("spoilt", "spoilt")
		}
	}
	l = l[:cap(l)]
	for i := range l {
		l[i] = node(-1, -1, "spoilt")
	}
}

func spoilOps(l []api.Op) {
	l = l[:cap(l)]
	for i := range l {
		l[i] = aMove(1, 1, -1, -1, "spoilt")
	}
}

// TestWhatIsHandedInStaysAsItIs: the lists of Add and From keep their order, whatever comes of the call.
func TestWhatIsHandedInStaysAsItIs(t *testing.T) {
	falling := ab()
	slices.Reverse(falling)
	for what, bad := range map[string][]api.Op{"good": falling, "bad": append(slices.Clone(falling), api.Op{}), "twice": append(slices.Clone(falling), falling[0])} {
		room := append(slices.Clone(bad), aMake(99, 0, root, "behind"), aMake(98, 0, root, "behind"))
		want := slices.Clone(room)
		newOne(t).Add(room[:len(bad)]...)
		grown(t, anAttr(4, 4, root, "k", "v")).Add(room[:len(bad)]...)
		oplog.From(nil, 0, room[:len(bad)])
		if !slices.Equal(room, want) {
			t.Error(what, ": the list has changed:", tellAll(room))
		}
	}
	base := some()
	x := made(t, base, 0, aMove(20, 0, a, root, "a"), anAttr(20, 1, a, "a", "other"), anAttr(20, 2, root, "a", ""))
	cut(t, x, 20)
	spoil(x.Base())
	spoil(x.Tree().Nodes())
	wantNodes(t, "the base that was handed in", base, some())
	bad := append(some(), node(most, root, "twice"))
	wantNoFrom(t, "no tree", api.ErrTree, bad, 0)
	wantNodes(t, "what was handed to a From that took it not", bad, append(some(), node(most, root, "twice")))
}

func TestWhatIsHandedInIsNotKept(t *testing.T) {
	base, ops := some(), []api.Op{aMove(20, 0, a, root, "a"), anAttr(20, 1, a, "a", "other")}
	x := made(t, base, 3, ops...)
	want := modelOf(some(), 3, ops...)
	spoil(base)
	spoilOps(ops)
	wantModel(t, "the lists of From are written to", x, want)
	more := []api.Op{aMake(19, 1, root, "late"), aMake(19, 0, root, "later"), anAttr(21, 0, a, "k", "v")}
	want, _ = want.add(more)
	add(t, "more", x, more...)
	spoilOps(more)
	wantModel(t, "the list of Add is written to", x, want)
	next, _ := want.add([]api.Op{anAttr(18, 0, a, "k", "w")})
	add(t, "and all is done again", x, anAttr(18, 0, a, "k", "w"))
	wantModel(t, "and all is done again", x, next)
	one := aMake(25, 0, root, "one")
	yes, err := x.Would(one)
	one.Name = "other"
	if !yes || err != api.OK || x.Len() != 6 {
		t.Error("Would keeps what it is asked:", yes, err, x.Len())
	}
}

// TestTextsThatAreWrittenTo: names, keys and values whose bytes their owner changes behind the call.
func TestTextsThatAreWrittenTo(t *testing.T) {
	bytes := []byte("name-key-value-other")
	all := unsafe.String(&bytes[0], len(bytes))
	x := newOne(t)
	add(t, "texts", x, aMake(1, 0, root, all[:4]), anAttr(2, 1, a, all[5:8], all[9:14]), aMove(3, 0, a, trash, all[15:]))
	base := []api.TreeNode{node(a, root, all[:4], attr(all[5:8], all[9:14]))}
	y := made(t, base, 1, aMove(3, 0, a, trash, all[15:]))
	for i := range bytes {
		bytes[i] = '/'
	}
	m := modelOf(nil, 0, aMake(1, 0, root, "name"), anAttr(2, 1, a, "key", "value"), aMove(3, 0, a, trash, "other"))
	n := modelOf([]api.TreeNode{node(a, root, "name", attr("key", "value"))}, 1, aMove(3, 0, a, trash, "other"))
	for what, p := range map[string]pair{"Add": {x, m}, "From": {y, n}} {
		wantModel(t, what+": the bytes are written to", p.l, p.m)
		next, _ := p.m.add([]api.Op{anAttr(2, 0, root, "k", "v")})
		add(t, what, p.l, anAttr(2, 0, root, "k", "v"))
		wantModel(t, what+": and done again", p.l, next)
		cut(t, p.l, 2)
		wantModel(t, what+": and cut", p.l, next.cut(2))
		cut(t, p.l, 3)
		wantModel(t, what+": and cut again", p.l, next.cut(3))
	}
}

// TestOneListForSeveralNodes: attributes that are handed in as one list are those of each.
func TestOneListForSeveralNodes(t *testing.T) {
	attrs := []api.Attr{attr("k", "v"), attr("l", "w")}
	x := made(t, []api.TreeNode{node(root, 0, "", attrs...), node(a, root, "a", attrs...), node(b, root, "b", attrs[:1]...)}, 0, anAttr(9, 0, a, "k", "other"))
	want := []api.TreeNode{node(root, 0, "", attr("k", "v"), attr("l", "w")), node(a, root, "a", attr("k", "other"), attr("l", "w")), node(b, root, "b", attr("k", "v"))}
	wantTree(t, "the others", x, want...)
	cut(t, x, 9)
	wantBase(t, "the others", x, want...)
}

// TestWhatIsAnsweredIsNobodysElse: neither the log's, nor its clone's, nor that of another answer; no two lists of one answer share any.
func TestWhatIsAnsweredIsNobodysElse(t *testing.T) {
	x := made(t, some(), 3, aMove(20, 0, a, root, "a"), anAttr(20, 1, a, "a", "other"))
	c := x.Clone()
	want := faceOf(x)
	for _, l := range []*oplog.Log{x, c} {
		one, other := l.Base(), l.Base()
		for i := range one {
			spoil(one[i : i+1 : i+1])
			wantNodes(t, "one node is written to: the nodes behind it", one[i+1:], some()[i+1:])
		}
		spoil(one)
		wantNodes(t, "another answer", other, some())
		told := l.Tree()
		spoil(told.Nodes())
		told.Do(aMove(30, 0, b, trash, "b"))
		told.Do(anAttr(30, 0, root, "a", ""))
		for op, taken := range l.Ops() {
			op.Name, op.Node, taken = "spoilt", -1, !taken
			_, _ = op, taken
		}
		wantFace(t, "answers are written to: the log", x, want)
		wantFace(t, "answers are written to: its clone", c, want)
	}
	cut(t, x, 20)
	spoil(x.Base())
	wantBase(t, "behind a cut", x, want.nodes...)
	wantFace(t, "behind a cut of the log: its clone", c, want)
}

// TestWhatIsAnsweredStays: whatever is done behind it.
func TestWhatIsAnsweredStays(t *testing.T) {
	for _, op := range []api.Op{aMove(4, 5, b, a, "x"), aMake(9, 5, a, "x"), anAttr(5, 5, a, "k", "x"), anAttr(1, 5, root, "k", "x")} {
		x := made(t, some(), 0, ab()...)
		tree, base := x.Tree(), x.Base()
		nodes := tree.Nodes()
		add(t, "behind the answers", x, op)
		wantNodes(t, "the tree of before", tree.Nodes(), nodes)
		cut(t, x, 5)
		cut(t, x, latest)
		wantNodes(t, "the tree of before", tree.Nodes(), nodes)
		wantNodes(t, "the base of before", base, some())
	}
}

// TestOpsTellWhatWasThere: whatever comes behind the asking, even in the midst of the telling, or when they were broken off.
func TestOpsTellWhatWasThere(t *testing.T) {
	changes := map[string]func(x *oplog.Log){
		"an Add ahead of all":  func(x *oplog.Log) { x.Add(anAttr(1, 1, a, "k", "x")) },
		"an Add that turns":    func(x *oplog.Log) { x.Add(aMove(2, 7, b, a, "x")) },
		"an Add behind all":    func(x *oplog.Log) { x.Add(anAttr(9, 1, a, "k", "x")) },
		"a Cut in the midst":   func(x *oplog.Log) { x.Cut(3) },
		"a Cut of all":         func(x *oplog.Log) { x.Cut(latest) },
		"a Cut, and then Adds": func(x *oplog.Log) { x.Cut(3); x.Add(row(9)[5:]...); x.Add(anAttr(4, 5, a, "k", "x")) },
	}
	want := opsOf(grown(t, ab()...))
	for what, change := range changes {
		x := grown(t, ab()...)
		asked, broken := x.Ops(), x.Ops()
		for op := range broken {
			if op.Stamp.Time == 3 {
				break
			}
		}
		var midst []told
		for op, taken := range x.Ops() {
			if len(midst) == 2 {
				change(x)
			}
			midst = append(midst, told{op, taken})
		}
		if !slices.Equal(midst, want) {
			t.Errorf("%s, in the midst: %+v", what, midst)
		}
		for range 2 {
			for when, ops := range map[string]func(func(api.Op, bool) bool){"asked ahead of it": asked, "broken off": broken} {
				var got []told
				ops(func(op api.Op, taken bool) bool { got = append(got, told{op, taken}); return true })
				if !slices.Equal(got, want) {
					t.Errorf("%s, %s: %+v", what, when, got)
				}
			}
		}
	}
	x := newOne(t)
	none := x.Ops()
	add(t, "behind the asking", x, ab()...)
	none(func(op api.Op, _ bool) bool { t.Error("it was not there, and is told:", tell(op)); return true })
}

// R4.

func TestNilAndEmptyLists(t *testing.T) {
	for _, base := range [][]api.TreeNode{nil, {}, some()[:0]} {
		for _, ops := range [][]api.Op{nil, {}, ab()[:0]} {
			wantFace(t, "no nodes and no operations", made(t, base, 5, ops...), face{frontier: 5})
		}
	}
	for _, attrs := range [][]api.Attr{nil, {}, {attr("k", "v")}} {
		l := []api.TreeNode{{Node: root, Attrs: attrs[:0]}, {Node: 5, Parent: root, Name: "a", Attrs: attrs[:0]}}
		wantFace(t, "no attributes", made(t, l, 0), face{nodes: []api.TreeNode{node(5, root, "a")}, base: []api.TreeNode{node(5, root, "a")}})
	}
}

// R6.

func TestSameCallsAnswerTheSame(t *testing.T) {
	run := func() []string {
		s := source(7)
		d := begin(t, &s)
		var answers []string
		for range 200 {
			told := d.step(t, "the same again")
			answers = append(answers, fmt.Sprint(told, faceOf(d.l)))
		}
		return answers
	}
	answers := run()
	for range 3 {
		if !slices.Equal(run(), answers) {
			t.Fatal("the same calls answer otherwise")
		}
	}
}

// R1: every call ends at all arguments; what it answers is held against the words elsewhere.

func TestAnyArguments(t *testing.T) {
	s := source(3)
	texts := []string{"", ".", "..", "/", "a", "a/b", "\x00", "\xff", "\xed\xa0\x80", "日本", long(text), long(text + 1), long(1 << 16)}
	edges := []int64{least, least + 1, -1, 0, 1, 2, 3, 15, 16, 23, a, b, latest - 1, latest, latest + 1, nodeOf(latest, 7), nodeOf(latest, 8), most - 1, most}
	number := func() int64 {
		if s.below(2) == 0 {
			return int64(s.next()<<33 ^ s.next())
		}
		return oneOf(&s, edges)
	}
	for _, x := range []*oplog.Log{nil, {}, newOne(t), made(t, some(), 0, ab()...)} {
		for range 2000 {
			op := func() api.Op {
				return api.Op{Stamp: at(number(), int(number())), Kind: s.below(6) - 1, Node: number(), Parent: number(), Name: oneOf(&s, texts), Key: oneOf(&s, texts), Value: oneOf(&s, texts)}
			}
			x.Add(op(), op())
			x.Would(op())
			if s.below(50) == 0 {
				x.Cut(number())
			}
			x, _ := x.Clone(), x.Tree()
			x.Add(op())
			x.Cut(number())
			opsOf(x)
			x.Base()
			base := []api.TreeNode{node(number(), number(), oneOf(&s, texts), attr(oneOf(&s, texts), oneOf(&s, texts)))}
			frontier := number()
			l, err := oplog.From(base, frontier, []api.Op{op()})
			if (l == nil) != (err != api.OK) || l != nil && (frontier < 0 || frontier > latest) {
				t.Fatalf("From at %d: error %d", frontier, err)
			}
		}
		if x != nil && x.Len() > 0 {
			wantATree(t, "any arguments", x.Tree().Nodes())
		}
	}
}

// THE BOUND: calls of a log with many operations; one that is not near-linear would take many times as long.

const longTime = 20 * time.Second

func wantSoon(t *testing.T, what string, call func()) {
	t.Helper()
	begun := time.Now()
	call()
	if took := time.Since(begun); took > longTime {
		t.Errorf("%s took %v", what, took)
	}
}

const many = 30_000

// lots are sets of many operations, all of which are taken.
func lots() map[string][]api.Op {
	var chain, broad, attrs, moves []api.Op
	last := int64(root)
	for time := int64(1); time <= many; time++ {
		chain = append(chain, aMake(time, 0, last, "a"))
		last = nodeOf(time, 0)
		broad = append(broad, aMake(time, 0, root, "a"))
		attrs = append(attrs, anAttr(time, 0, root, fmt.Sprint(time*7919%many), "v"))
		if time%2 == 1 {
			moves = append(moves, aMake(time, 0, root, fmt.Sprint(time)))
		} else {
			moves = append(moves, aMove(time, 1, nodeOf(time-1, 0), trash, "b"))
		}
	}
	return map[string][]api.Op{"a chain": chain, "broad": broad, "attributes": attrs, "moves": moves}
}

func TestManyOperations(t *testing.T) {
	for what, ops := range lots() {
		s := source(5)
		mixed := shuffled(&s, ops)
		wantSoon(t, what, func() {
			x := newOne(t)
			wantAdd(t, what, x, many, mixed...)
			for i := range 5 {
				add(t, what+", late", x, anAttr(1, 1+i, root, "k", "v"))
			}
			wantRedone(t, what+", late", x, many-1)
			c := x.Clone()
			add(t, what+", late in a clone", c, anAttr(1, 7, root, "k", "v"))
			for i := range int64(20) {
				cut(t, x, many/20*(i+1))
				x.Would(aMove(9, 0, a, trash, "b"))
				if n := len(x.Base()) + len(opsOf(x)) + x.Tree().Len(); n == 0 {
					t.Error("nothing is told")
				}
			}
			if x.Len() != 0 || c.Len() != many+6 {
				t.Error(what, "Len", x.Len(), c.Len())
			}
			wantNodes(t, what, x.Base(), x.Tree().Nodes())
			wantNodes(t, what, c.Tree().Nodes(), x.Tree().Nodes())
			y := made(t, x.Base(), 0, anAttr(1, 0, root, "k", "w"))
			cut(t, y, latest)
		})
	}
}

// TestManyAdds: one by one, in order.
func TestManyAdds(t *testing.T) {
	for what, ops := range lots() {
		wantSoon(t, what, func() {
			x := newOne(t)
			for _, op := range ops {
				wantAdd(t, what, x, 1, op)
			}
			for _, op := range ops[:100] {
				wantNoTwice(t, x, op)
			}
		})
	}
}

func wantNoTwice(t *testing.T, x *oplog.Log, op api.Op) {
	t.Helper()
	if n, err := x.Add(op); n != 0 || err != api.ErrTwice {
		t.Error("twice:", n, "error", err)
	}
}

// TestMovesInADeepTree: to ask the guard of each costs as much as the tree is deep, which Clone and Cut need not do.
func TestMovesInADeepTree(t *testing.T) {
	const deep, moves = 10_000, 5_000
	base := []api.TreeNode{node(nodeOf(1, 0), root, "a")}
	for time := int64(2); time <= deep; time++ {
		base = append(base, node(nodeOf(time, 0), nodeOf(time-1, 0), "a"))
	}
	leaf := nodeOf(deep+1, 0)
	base = append(base, node(leaf, root, "leaf"))
	var ops []api.Op
	for time := int64(1); time <= moves; time++ {
		ops = append(ops, aMove(time, 0, leaf, nodeOf(deep-time%2, 0), "leaf"))
	}
	x := made(t, base, 0, ops...)
	wantSoon(t, "clones that are cut", func() {
		for range 40 {
			c := x.Clone()
			cut(t, c, moves/2)
			cut(t, c, moves)
			if l := c.Base(); len(l) != deep+1 || l[deep].Parent != nodeOf(deep-moves%2, 0) {
				t.Error("the base behind a cut has", len(l), "nodes")
			}
		}
	})
}

func TestLongTexts(t *testing.T) {
	far := strings.Repeat("/.", 1<<25)
	x := newOne(t)
	wantSoon(t, "long texts", func() {
		wantNoAdd(t, "a long name", x, api.ErrLong, aMake(1, 0, root, far))
		wantNoAdd(t, "a long value", x, api.ErrLong, anAttr(1, 0, root, "k", far))
		if yes, err := x.Would(anAttr(1, 0, root, far, "v")); yes || err != api.ErrLong {
			t.Error("Would:", yes, "error", err)
		}
		wantNoFrom(t, "a long name", api.ErrTree, []api.TreeNode{node(5, root, far)}, 0)
	})
}
