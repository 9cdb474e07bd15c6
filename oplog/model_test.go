package oplog_test

import (
	"fmt"
	"maps"
	"slices"
	"testing"

	"orchard/api"
	"orchard/oplog"
	"orchard/stamp"
)

// All of the chapter at once: logs that are driven at random, held against a plain telling of the chapter.

// forest is a tree, told anew: all nodes by number, the root and the trash too.
type forest map[int64]plain

type plain struct {
	parent int64
	name   string
	attrs  map[string]string
}

func newForest() forest { return forest{root: {}, trash: {}} }

func forestOf(l []api.TreeNode) forest {
	f := newForest()
	for _, n := range l {
		p := plain{parent: n.Parent, name: n.Name, attrs: map[string]string{}}
		for _, a := range n.Attrs {
			p.attrs[a.Key] = a.Value
		}
		f[n.Node] = p
	}
	return f
}

func (f forest) has(n int64) bool { _, is := f[n]; return is }

func (f forest) below(n, above int64) bool {
	for f.has(n) {
		if n == above {
			return true
		}
		n = f[n].parent
	}
	return false
}

// may is P12.1, of operations that stamp.CheckOp takes.
func (f forest) may(op api.Op) bool {
	making, moving := 1, 2
	switch op.Kind {
	case making:
		return !f.has(op.Node) && f.has(op.Parent)
	case moving:
		return f.has(op.Node) && f.has(op.Parent) && !f.below(op.Parent, op.Node)
	}
	return f.has(op.Node)
}

// do changes f, if the guard takes an operation.
func (f forest) do(op api.Op) bool {
	if !f.may(op) {
		return false
	}
	p := f[op.Node]
	if op.Kind != 3 {
		p.parent, p.name = op.Parent, op.Name
		f[op.Node] = p
		return true
	}
	p.attrs = maps.Clone(p.attrs)
	if p.attrs == nil {
		p.attrs = map[string]string{}
	}
	p.attrs[op.Key] = op.Value
	if op.Value == "" {
		delete(p.attrs, op.Key)
	}
	f[op.Node] = p
	return true
}

func (f forest) nodes() []api.TreeNode {
	var l []api.TreeNode
	for _, n := range slices.Sorted(maps.Keys(f)) {
		x := node(n, f[n].parent, f[n].name)
		for _, key := range slices.Sorted(maps.Keys(f[n].attrs)) {
			x.Attrs = append(x.Attrs, attr(key, f[n].attrs[key]))
		}
		if n > 2 || len(x.Attrs) > 0 {
			l = append(l, x)
		}
	}
	return l
}

// model is what a log holds, by the chapter's words; its tree is made anew whenever it is asked for.
type model struct {
	frontier int64
	base     forest
	ops      []api.Op // by stamps
	behind   int      // how many stood behind the least of what came in the last Add that answered OK
}

func newModel() model { return model{base: newForest()} }

func modelOf(base []api.TreeNode, frontier int64, ops ...api.Op) model {
	return model{base: forestOf(base), frontier: frontier, ops: sorted(ops)}
}

func isAhead(x, y api.Stamp) bool { return x.Time < y.Time || x.Time == y.Time && x.Site < y.Site }

func sorted(ops []api.Op) []api.Op {
	ops = slices.Clone(ops)
	slices.SortFunc(ops, func(x, y api.Op) int {
		if isAhead(x.Stamp, y.Stamp) {
			return -1
		}
		return 1
	})
	return ops
}

func (m model) has(s api.Stamp) bool {
	return slices.ContainsFunc(m.ops, func(op api.Op) bool { return op.Stamp == s })
}

// play is the tree, and what is taken.
func (m model) play() (forest, []told) {
	f := maps.Clone(m.base)
	var l []told
	for _, op := range m.ops {
		l = append(l, told{op, f.do(op)})
	}
	return f, l
}

// check is P13.2's error.
func (m model) check(ops []api.Op) api.Errno {
	for i, op := range ops {
		if err := stamp.CheckOp(op); err != api.OK {
			return err
		}
		if op.Stamp.Time <= m.frontier {
			return api.ErrOld
		}
		if m.has(op.Stamp) || slices.ContainsFunc(ops[:i], func(x api.Op) bool { return x.Stamp == op.Stamp }) {
			return api.ErrTwice
		}
	}
	return api.OK
}

// add is another model, and how many of ops are taken.
func (m model) add(ops []api.Op) (model, int) {
	behind := 0
	for _, old := range m.ops {
		if slices.ContainsFunc(ops, func(op api.Op) bool { return isAhead(op.Stamp, old.Stamp) }) {
			behind++
		}
	}
	next := model{m.frontier, m.base, sorted(append(slices.Clone(m.ops), ops...)), behind}
	taken := 0
	_, l := next.play()
	for _, x := range l {
		if x.taken && slices.ContainsFunc(ops, func(op api.Op) bool { return op.Stamp == x.op.Stamp }) {
			taken++
		}
	}
	return next, taken
}

// cut is another model.
func (m model) cut(time int64) model {
	i := 0
	for i < len(m.ops) && m.ops[i].Stamp.Time <= time {
		i++
	}
	base, _ := model{base: m.base, ops: m.ops[:i]}.play()
	return model{time, base, m.ops[i:], m.behind}
}

func (m model) face(redone int) face {
	f, l := m.play()
	return face{m.frontier, l, f.nodes(), m.base.nodes(), redone}
}

// wantModel holds all that a log tells against its model.
func wantModel(t *testing.T, what string, l *oplog.Log, m model) {
	t.Helper()
	wantAlike(t, what, l, m.face(0))
	if n := l.Redone(); n < 0 || n > m.behind {
		t.Errorf("%s: Redone: %d, and %d stood behind the least of what came", what, n, m.behind)
	}
}

// pair is a log and its model.
type pair struct {
	l *oplog.Log
	m model
}

// drive is the log that is driven, and others of before, which go their own ways.
type drive struct {
	s *source
	pair
	others []pair
}

func begin(t *testing.T, s *source) *drive { return &drive{s: s, pair: pair{newOne(t), newModel()}} }

// stamp is mostly one of a few above the frontier.
func (d *drive) stamp() api.Stamp {
	switch d.s.below(60) {
	case 0:
		return at(oneOf(d.s, []int64{least, -1, 0, latest + 1, most}), d.s.below(3))
	case 1:
		return at(1+int64(d.s.below(9)), oneOf(d.s, []int{-1, 8}))
	case 2:
		return at(d.m.frontier, d.s.below(8))
	case 3:
		return at(d.m.frontier-1, d.s.below(8))
	case 4:
		return at(latest-int64(d.s.below(2)), d.s.below(8))
	}
	return at(d.m.frontier+1+int64(d.s.below(32)), d.s.below(3))
}

// node is mostly one of few: nodes that are there, and such as an operation may make that comes later.
func (d *drive) node() int64 {
	switch k := d.s.below(20); {
	case k == 0:
		return oneOf(d.s, []int64{least, 0, 3, 23, most, nodeOf(latest, 7), nodeOf(latest, 7) + 1})
	case k == 1:
		return root
	case k == 2:
		return trash
	case k < 6:
		s := d.making()
		return nodeOf(s.Time, s.Site)
	}
	f, _ := d.m.play()
	there := slices.Sorted(maps.Keys(f))
	return oneOf(d.s, there[max(0, len(there)-6):])
}

// making is a stamp with which a node is made, mostly: an early one of those that may come.
func (d *drive) making() api.Stamp {
	return at((d.m.frontier/4+1+int64(d.s.below(4)))*4, d.s.below(2))
}

func (d *drive) name() string {
	if d.s.below(40) == 0 {
		return oneOf(d.s, []string{"", ".", "..", "a/b", "/", long(text), long(text + 1)})
	}
	return oneOf(d.s, []string{"a", "b", "c"})
}

func (d *drive) op() api.Op {
	if d.s.below(5) == 0 {
		s := d.making()
		return aMake(s.Time, s.Site, oneOf(d.s, []int64{root, root, d.node()}), d.name())
	}
	s := d.stamp()
	switch d.s.below(8) {
	case 0:
		return aMake(s.Time, s.Site, d.node(), d.name())
	case 1, 2, 3, 4, 5:
		return aMove(s.Time, s.Site, d.node(), d.node(), d.name())
	case 6:
		if d.s.below(6) == 0 {
			return api.Op{Stamp: s, Kind: d.s.below(6) - 1, Node: d.node(), Parent: d.node(), Name: d.name(), Key: oneOf(d.s, []string{"", "k"})}
		}
	}
	return anAttr(s.Time, s.Site, d.node(), d.key(), oneOf(d.s, []string{"", "v", "w"}))
}

func (d *drive) key() string {
	if d.s.below(10) == 0 {
		return oneOf(d.s, []string{"", long(text), long(text + 1), "/"})
	}
	return oneOf(d.s, []string{"k", "l"})
}

// many are operations: few or many, mostly such as may be added.
func (d *drive) many() []api.Op {
	var ops []api.Op
	for range oneOf(d.s, []int{0, 2, 2, 2, 2, 3, 4, 6, 12}) {
		op := d.op()
		if d.s.below(12) > 0 && d.m.check(append(slices.Clone(ops), op)) != api.OK {
			continue
		}
		ops = append(ops, op)
	}
	return ops
}

func (d *drive) add(t *testing.T, what string) string {
	t.Helper()
	ops := d.many()
	told := fmt.Sprint("Add of ", tellAll(ops))
	if err := d.m.check(ops); err != api.OK {
		wantNoAdd(t, what+": "+told, d.l, err, ops...)
		return told
	}
	next, taken := d.m.add(ops)
	wantAdd(t, what, d.l, taken, ops...)
	d.m = next
	return told
}

func (d *drive) cut(t *testing.T, what string) string {
	t.Helper()
	time := d.m.frontier + int64(oneOf(d.s, []int{-1, 0, 1, 1, 2, 3, 4}))
	switch d.s.below(30) {
	case 0:
		time = oneOf(d.s, []int64{least, -1, latest + 1, most})
	case 1:
		time += 32
	}
	told := fmt.Sprintf("Cut(%d)", time)
	if time < d.m.frontier || time > latest {
		before := faceOf(d.l)
		wantErr(t, what+": "+told, d.l.Cut(time), api.ErrArg)
		wantFace(t, what+": "+told, d.l, before)
		return told
	}
	wantErr(t, what+": "+told, d.l.Cut(time), api.OK)
	d.m = d.m.cut(time)
	return told
}

func (d *drive) would(t *testing.T, what string) string {
	t.Helper()
	op := d.op()
	want, wantE := false, stamp.CheckOp(op)
	if wantE == api.OK {
		f, _ := d.m.play()
		want = f.may(op)
	}
	if got, err := d.l.Would(op); got != want || err != wantE {
		t.Errorf("%s: Would(%s): %v, error %d, want %v, error %d", what, tell(op), got, err, want, wantE)
	}
	return "Would"
}

// swap goes on with another log, which is like this one; this one waits, and must stay as it is.
func (d *drive) swap(t *testing.T, what string) string {
	t.Helper()
	d.others = append(d.others, d.pair)
	switch d.s.below(3) {
	case 0:
		c := d.l.Clone()
		wantFace(t, what+": Clone", c, faceOf(d.l))
		d.l = c
		return "Clone"
	case 1:
		l, err := oplog.From(d.l.Base(), d.l.Frontier(), shuffled(d.s, opsAlone(d.l)))
		if err != api.OK {
			t.Fatalf("%s: From of what a log told: error %d", what, err)
		}
		d.l, d.m.behind = l, 0
		return "From of what it told"
	}
	i := d.s.below(len(d.others))
	d.pair = d.others[i]
	d.others = slices.Delete(d.others, i, i+1)
	return "back to another one"
}

// step does one thing to both, and tells what.
func (d *drive) step(t *testing.T, what string) string {
	t.Helper()
	switch k := d.s.below(24); {
	case k == 0:
		return d.cut(t, what)
	case k < 4:
		return d.would(t, what)
	case k == 4:
		return d.swap(t, what)
	}
	return d.add(t, what)
}

func runAtRandom(t *testing.T, seed uint64, steps int) {
	t.Helper()
	s := source(seed)
	d := begin(t, &s)
	for i := range steps {
		what := fmt.Sprintf("seed %d, step %d", seed, i)
		told := d.step(t, what)
		wantModel(t, what+": "+told, d.l, d.m)
		if t.Failed() {
			t.Fatalf("%s: %s", what, told)
		}
	}
	for _, p := range d.others {
		wantModel(t, fmt.Sprintf("seed %d: one of before", seed), p.l, p.m)
	}
}

func TestLogsAtRandom(t *testing.T) {
	for seed := range uint64(400) {
		runAtRandom(t, seed, 120)
	}
}

// TestRandomOperationsAreOfUse: many are taken, and many not, of each Kind; many change from the one to the other.
func TestRandomOperationsAreOfUse(t *testing.T) {
	taken, refused := map[int]int{}, map[int]int{}
	turned, errors, cuts := map[bool]int{}, map[api.Errno]int{}, 0
	for seed := range uint64(60) {
		s := source(seed)
		d := begin(t, &s)
		for range 120 {
			before := map[api.Stamp]int{}
			for _, x := range opsOf(d.l) {
				before[x.op.Stamp] = map[bool]int{false: 1, true: 2}[x.taken]
			}
			errors[d.m.check(d.many())]++
			if s.below(24) == 0 {
				d.cut(t, "of use")
				cuts += len(before) - d.l.Len()
				continue
			}
			d.add(t, "of use")
			for _, x := range opsOf(d.l) {
				was := before[x.op.Stamp]
				if was != 0 && (was == 2) != x.taken {
					turned[x.taken]++
				}
				if was == 0 && x.taken {
					taken[x.op.Kind]++
				} else if was == 0 {
					refused[x.op.Kind]++
				}
			}
		}
	}
	for kind := api.OpMake; kind <= api.OpAttr; kind++ {
		if taken[kind] < 100 || refused[kind] < 100 {
			t.Error("of the Kind", kind, taken[kind], "are taken,", refused[kind], "not")
		}
	}
	if turned[true] < 50 || turned[false] < 50 || cuts < 100 {
		t.Error("turned:", turned, "cut:", cuts)
	}
	for _, err := range []api.Errno{api.OK, api.ErrArg, api.ErrLong, api.ErrTwice, api.ErrOld} {
		if errors[err] < 5 {
			t.Error("the error", err, "comes only", errors[err], "times")
		}
	}
}

func FuzzLog(f *testing.F) {
	for seed := range uint64(10) {
		f.Add(seed)
	}
	f.Fuzz(func(t *testing.T, seed uint64) { runAtRandom(t, seed, 240) })
}
