package snap_test

import (
	"fmt"
	"reflect"
	"slices"
	"strconv"
	"testing"

	"orchard/api"
	"orchard/snap"
)

// P14.1 and P14.2 at random: states that may be, and such with something changed, held against the model.

// count is a number from 0 to MaxTime, of any size.
func (s *source) count() int64 { return int64(s.next()) << 9 >> s.below(41) }

func (s *source) vector() api.Vector {
	var v api.Vector
	for i := range v {
		v[i] = s.count()
	}
	return v
}

func (s *source) bytes(n int) []byte {
	b := make([]byte, n)
	for i := range b {
		b[i] = byte(s.next())
	}
	return b
}

func (s *source) name() string {
	return oneOf(s, []string{"a", "b", "\xff", "...", "x\x00y", "日本", long(63), long(64), long(text), "n" + strconv.Itoa(s.below(100))})
}

func (s *source) epoch() api.Epoch {
	e := api.Epoch{Number: s.count(), Seals: s.vector()}
	for i := range sites {
		e.States[i], e.Sponsor[i] = s.below(4), s.below(9)-1
	}
	return e
}

// nodes are a tree's: each one stands under one that was put in ahead of it, whatever its number.
func (s *source) nodes() []api.TreeNode {
	numbers := map[int64]int64{} // of each node its parent
	above := []int64{root, trash}
	for range s.below(8) {
		n := 3 + s.count()
		if _, is := numbers[n]; !is {
			numbers[n] = oneOf(s, above)
			above = append(above, n)
		}
	}
	var l []api.TreeNode
	if s.below(2) == 0 {
		l = append(l, node(root, 0, "", attrsOf(s.below(3))...))
	}
	if s.below(2) == 0 {
		l = append(l, node(trash, 0, "", attrsOf(s.below(3))...))
	}
	slices.Sort(above)
	for _, n := range above[2:] {
		l = append(l, node(n, numbers[n], s.name(), attrsOf(s.below(3))...))
	}
	return l
}

func (s *source) op(stamp api.Stamp) api.Op {
	some := []int64{root, trash, 24, nodeOf(s.count()/16+1, s.below(8))}
	switch s.below(3) {
	case 0:
		return aMake(stamp.Time, stamp.Site, oneOf(s, some), s.name())
	case 1:
		return aMove(stamp.Time, stamp.Site, oneOf(s, some[2:]), oneOf(s, some), s.name())
	}
	return anAttr(stamp.Time, stamp.Site, oneOf(s, some), s.name(), oneOf(s, []string{"", s.name()}))
}

// log are operations above a time, with stamps that rise.
func (s *source) log(above int64) []api.Op {
	var l []api.Op
	stamp := at(above+1, s.below(8))
	for range s.below(6) {
		l = append(l, s.op(stamp))
		if stamp.Site < 7 && s.below(2) == 0 {
			stamp.Site++
		} else {
			stamp = at(stamp.Time+1+int64(s.below(100)), s.below(8))
		}
	}
	return l
}

func (s *source) kept(site int) []api.Op {
	var l []api.Op
	time := 1 + s.count()/2
	for range s.below(4) {
		l = append(l, s.op(at(time, site)))
		time += 1 + int64(s.below(100))
	}
	return l
}

func (s *source) rows() []api.Row {
	var l []api.Row
	session := int64(0)
	for range s.below(5) {
		session += 1 + s.count()/8
		r := api.Reply{Err: api.Errno(s.below(1000)), Stamp: at(s.count(), s.below(8)), Node: s.count() << s.below(10)}
		l = append(l, api.Row{Session: session, Request: 1 + s.count()/2, Reply: r})
	}
	return l
}

func (s *source) parts() []api.Part {
	var l []api.Part
	for range s.below(4) {
		many := 1 + s.below(mostMany)
		l = append(l, api.Part{Snap: s.count(), Index: s.below(many), Many: many, Data: s.bytes(s.below(100))})
	}
	return l
}

// state is a state that may be.
func (s *source) state() api.Snap {
	x := api.Snap{
		Site: s.below(8), Applied: s.count(), Booted: s.below(2) == 0, Epoch: s.epoch(), Clock: s.count(),
		Last: s.vector(), Base: s.nodes(), Frontier: s.count() / 2, Told: s.vector(), Clocks: s.vector(), Sure: s.vector(),
		Rows: s.rows(), Parts: s.parts(),
	}
	x.Log = s.log(x.Frontier)
	for site := range sites {
		x.Known[site] = s.vector()
		x.Starts[site] = s.count() / 2
		keep(&x, site, s.kept(site))
	}
	return x
}

// spoil changes something at random: a place, or a list's members.
func (s *source) spoil(x *api.Snap) {
	if l := lists(x); s.below(3) == 0 {
		s.spoilList(oneOf(s, l).v)
		return
	}
	p := oneOf(s, places(x))
	switch p.v.Kind() {
	case reflect.String:
		p.v.SetString(oneOf(s, []string{"", ".", "a/b", s.name(), long(text + 1)}))
	case reflect.Bool, reflect.Uint8:
		p.turn()
	default:
		p.v.SetInt(oneOf(s, []int64{-1, 0, 1, 2, 3, 7, 8, 999, 1000, mostMany, latest, latest + 1, mostNode, mostNode + 1, p.v.Int() + 1, p.v.Int() - 1, s.count()}))
	}
}

func (s *source) spoilList(v reflect.Value) {
	if v.Len() == 0 {
		return
	}
	i := s.below(v.Len())
	switch s.below(4) {
	case 0:
		v.Set(reflect.AppendSlice(v.Slice3(0, i, i), v.Slice(i+1, v.Len())))
	case 1:
		v.Set(reflect.Append(v, v.Index(i)))
	case 2:
		v.Set(reflect.Append(v, reflect.Zero(v.Type().Elem())))
	default:
		reflect.Swapper(v.Interface())(i, s.below(v.Len()))
	}
}

func TestRandomStates(t *testing.T) {
	s := source(3)
	for i := range 400 {
		x := s.state()
		if !mayBe(x) {
			t.Fatal("the model refuses what was made to be a state:", tell(x))
		}
		wantMayBe(t, fmt.Sprint("the random state ", i), x)
		wantSame(t, "Clone", snap.Clone(x), x)
	}
}

func TestRandomFaults(t *testing.T) {
	s := source(4)
	may := 0
	const runs = 8000
	for i := range runs {
		x := s.state()
		for range 1 + s.below(2) {
			s.spoil(&x)
		}
		if mayBe(x) {
			may++
		}
		wantState(t, fmt.Sprint("the spoilt state ", i), x, mayBe(x))
		if t.Failed() {
			t.Fatal(tell(x))
		}
	}
	if may < runs/10 || may > runs*9/10 {
		t.Error("of so many spoilt states so many may be:", runs, may)
	}
}

// TestRandomDiffer: against the forms of the fields, each by itself.
func TestRandomDiffer(t *testing.T) {
	s := source(6)
	for range 2000 {
		x := s.state()
		y := snap.Clone(x)
		for range s.below(4) {
			s.spoil(&y)
		}
		var names []string
		for i, name := range fields() {
			var a, b pieces
			a.value(reflect.ValueOf(x).Field(i))
			b.value(reflect.ValueOf(y).Field(i))
			if !slices.Equal(a.bytes(), b.bytes()) {
				names = append(names, name)
			}
		}
		wantDiffer(t, "at random", x, y, names...)
	}
}
