package stamp_test

import (
	"math"
	"slices"
	"testing"

	"orchard/api"
	"orchard/stamp"
)

// What follows: P11.4 and P11.5.

// P11.4.

func someStamps(s *source, n int) []api.Stamp {
	var l []api.Stamp
	for range n {
		l = append(l, at(oneOf(s, times()), oneOf(s, places())))
	}
	return l
}

// TestTotalOrder: any two are in order, only the same ones are equal, and what is in order stays so over a third one.
func TestTotalOrder(t *testing.T) {
	s := source(3)
	l := someStamps(&s, 120)
	for _, a := range l {
		for _, b := range l {
			ab := stamp.Compare(a, b)
			if ab != -1 && ab != 0 && ab != 1 || stamp.Compare(b, a) != -ab || (ab == 0) != (a == b) {
				t.Fatalf("Compare(%v, %v): %d, and the other way %d", a, b, ab, stamp.Compare(b, a))
			}
			for _, c := range l {
				if ab <= 0 && stamp.Compare(b, c) <= 0 && stamp.Compare(a, c) > 0 {
					t.Fatalf("%v, %v, %v are in order, but not the first and the last one", a, b, c)
				}
			}
		}
	}
}

// TestSorted: whatever the order was, sorting by Compare comes to the same.
func TestSorted(t *testing.T) {
	s := source(4)
	for range 50 {
		l := shuffled(&s, rising())
		slices.SortFunc(l, stamp.Compare)
		if !slices.Equal(l, rising()) {
			t.Fatal("sorted by Compare:", l)
		}
		if got := stamp.Greatest(l...); got != l[len(l)-1] {
			t.Fatal("Greatest is not the last one:", got)
		}
	}
}

// manyStamps are stamps that may be, rising: all of small times, and of those around each power of 2.
func manyStamps() []api.Stamp {
	var l []api.Stamp
	add := func(from, to int64) {
		for time := from; time <= to; time++ {
			for site := range sites {
				l = append(l, at(time, site))
			}
		}
	}
	add(1, 1000)
	for bit := 11; bit < 40; bit++ {
		add(1<<bit-2, 1<<bit+2)
	}
	add(latest-1000, latest)
	return l
}

func TestNodeAndOfAreEachOthers(t *testing.T) {
	for _, s := range manyStamps() {
		wantOf(t, stamp.Node(s), s)
	}
	for n := int64(-1000); n < 10_000; n++ {
		wantThereAndBack(t, n)
		wantThereAndBack(t, mostNode-n)
		wantThereAndBack(t, math.MinInt64+1000+n)
		wantThereAndBack(t, math.MaxInt64-1000-n)
	}
	s := source(5)
	for range 10_000 {
		wantThereAndBack(t, int64(s.next()<<33^s.next()))
		wantThereAndBack(t, int64(s.next()<<33^s.next())&(1<<43-1))
	}
}

// wantThereAndBack: a number is the node of its stamp, or none, and just those between the least and the most one have a stamp.
func wantThereAndBack(t *testing.T, node int64) {
	t.Helper()
	if node < leastNode || node > mostNode {
		wantNoStamp(t, node)
		return
	}
	s, is := stamp.Of(node)
	if !is || !stamp.Check(s) || stamp.Node(s) != node {
		t.Errorf("Of(%d): %v, %v, and its Node is %d", node, s, is, stamp.Node(s))
	}
}

// TestNodesRise: a greater stamp has a greater node, so unlike ones have unlike ones.
func TestNodesRise(t *testing.T) {
	l := manyStamps()
	for i := 1; i < len(l); i++ {
		a, b := l[i-1], l[i]
		if stamp.Compare(a, b) != -1 || stamp.Node(a) >= stamp.Node(b) {
			t.Errorf("%v and %v: Compare %d, nodes %d and %d", a, b, stamp.Compare(a, b), stamp.Node(a), stamp.Node(b))
		}
	}
	s := source(6)
	for range 10_000 {
		a, b := oneOf(&s, l), oneOf(&s, l)
		if (stamp.Compare(a, b) < 0) != (stamp.Node(a) < stamp.Node(b)) || (a == b) != (stamp.Node(a) == stamp.Node(b)) {
			t.Errorf("%v and %v have the nodes %d and %d", a, b, stamp.Node(a), stamp.Node(b))
		}
	}
}

// TestNodesAreNotGiven: no operation makes the root, the trash, or a number below FirstNode.
func TestNodesAreNotGiven(t *testing.T) {
	for _, s := range manyStamps() {
		if n := stamp.Node(s); n <= api.FirstNode || n == root || n == trash || n > api.MaxNode {
			t.Errorf("Node(%v): %d", s, n)
		}
	}
}

// P11.5.

// isAbove is Above, told anew.
func isAbove(a, b api.Vector) bool {
	for site := range sites {
		if a[site] < b[site] {
			return false
		}
	}
	return true
}

// small are all vectors with parts -1, 0, 1 at the first two sites and at the last one.
func small() []api.Vector {
	var l []api.Vector
	for i := range int64(27) {
		l = append(l, api.Vector{i%3 - 1, i/3%3 - 1, 0, 0, 0, 0, 0, i/9 - 1})
	}
	return l
}

// TestBoundsOfSmallVectors: each three of them, held against each that might be a better bound.
func TestBoundsOfSmallVectors(t *testing.T) {
	l := small()
	for _, a := range l {
		for _, b := range l {
			for _, c := range l {
				wantBounds(t, []api.Vector{a, b, c}, l)
			}
		}
	}
}

func TestBoundsOfAnyVectors(t *testing.T) {
	s := source(7)
	for n := 1; n <= 12; n++ {
		for range 40 {
			l := s.vectors(n, []int64{math.MinInt64, -1, 0, 1, latest, math.MaxInt64})
			others := s.vectors(20, parts())
			for site := range sites { // bounds that are out by one
				join, meet := stamp.Join(l...), stamp.Meet(l...)
				join[site]--
				meet[site]++
				others = append(others, join, meet)
			}
			wantBounds(t, l, append(others, l...))
		}
	}
}

// wantBounds: Join is Above all of l, all of l are Above Meet, and none of others is a closer bound.
func wantBounds(t *testing.T, l, others []api.Vector) {
	t.Helper()
	join, meet := stamp.Join(l...), stamp.Meet(l...)
	for _, v := range l {
		if !stamp.Above(join, v) || !isAbove(join, v) {
			t.Fatalf("of %v the Join %v is not Above %v", l, join, v)
		}
		if !stamp.Above(v, meet) || !isAbove(v, meet) {
			t.Fatalf("of %v %v is not Above the Meet %v", l, v, meet)
		}
	}
	for _, o := range others {
		over, under := true, true
		for _, v := range l {
			over = over && isAbove(o, v)
			under = under && isAbove(v, o)
		}
		if over && (!stamp.Above(o, join) || !isAbove(o, join)) {
			t.Fatalf("of %v %v is Above all, but not Above the Join %v", l, o, join)
		}
		if under && (!stamp.Above(meet, o) || !isAbove(meet, o)) {
			t.Fatalf("of %v all are Above %v, but the Meet %v is not", l, o, meet)
		}
	}
}

// TestAboveIsAnOrder: of vectors that are Above each other, which only the same ones are.
func TestAboveIsAnOrder(t *testing.T) {
	l := small()
	for _, a := range l {
		for _, b := range l {
			if stamp.Above(a, b) != isAbove(a, b) || (stamp.Above(a, b) && stamp.Above(b, a)) != (a == b) {
				t.Fatalf("Above(%v, %v): %v, and the other way %v", a, b, stamp.Above(a, b), stamp.Above(b, a))
			}
			for _, c := range l {
				if stamp.Above(a, b) && stamp.Above(b, c) && !stamp.Above(a, c) {
					t.Fatalf("%v is Above %v, that Above %v, but the first not Above the last", a, b, c)
				}
			}
		}
	}
}

// TestAnyGrouping: joined and met one by one, in any order, or all at once.
func TestAnyGrouping(t *testing.T) {
	s := source(8)
	for n := 1; n <= 30; n++ {
		l := s.vectors(n, parts())
		join, meet := stamp.Join(l...), stamp.Meet(l...)
		one, two := l[0], l[0]
		for _, v := range shuffled(&s, l) {
			one, two = stamp.Join(one, v), stamp.Meet(v, two)
		}
		wantVector(t, "joined one by one", one, join)
		wantVector(t, "met one by one", two, meet)
		cut := s.below(n)
		wantVector(t, "joined in two lists", stamp.Join(stamp.Join(l[:cut+1]...), stamp.Join(l[cut:]...)), join)
		wantVector(t, "met in two lists", stamp.Meet(stamp.Meet(l[:cut+1]...), stamp.Meet(l[cut:]...)), meet)
		wantVector(t, "joined with themselves", stamp.Join(append(l, l...)...), join)
		wantVector(t, "met with themselves", stamp.Meet(append(l, l...)...), meet)
	}
}
