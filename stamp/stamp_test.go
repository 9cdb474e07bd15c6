package stamp_test

import (
	"math"
	"slices"
	"testing"

	"orchard/api"
	"orchard/stamp"
)

// P11.1: Compare, Check, Greatest, Node, Of.

func TestNumbers(t *testing.T) {
	if api.MaxTime != latest || api.MaxSites != sites || api.MaxText != text || api.FirstNode != 16 || api.Root != root || api.Trash != trash {
		t.Error("limits", int64(api.MaxTime), api.MaxSites, api.MaxText, api.FirstNode, api.Root, api.Trash)
	}
	if api.OpMake != 1 || api.OpMove != 2 || api.OpAttr != 3 {
		t.Error("kinds", api.OpMake, api.OpMove, api.OpAttr)
	}
	if api.OK != 0 || api.ErrArg != 1 || api.ErrLong != 3 {
		t.Error("errors", api.OK, api.ErrArg, api.ErrLong)
	}
}

func TestCompare(t *testing.T) {
	for _, c := range []struct {
		a, b api.Stamp
		want int
	}{
		{at(3, 1), at(3, 2), -1},
		{at(3, 2), at(3, 1), 1},
		{at(3, 2), at(3, 2), 0},
		{at(2, 7), at(3, 0), -1},
		{at(3, 0), at(2, 7), 1},
		{at(1, 7), at(latest, 0), -1},
		{at(latest, 7), at(latest, 6), 1},
		{at(0, 0), at(1, 0), -1},
		{at(0, 0), at(0, 0), 0},
	} {
		if got := stamp.Compare(c.a, c.b); got != c.want {
			t.Errorf("Compare(%v, %v): %d, want %d", c.a, c.b, got, c.want)
		}
	}
}

// TestCompareAnyStamps: also such as may not be; differences of such fields would wrap round.
func TestCompareAnyStamps(t *testing.T) {
	l := rising()
	for i, a := range l {
		for j, b := range l {
			want := min(1, max(-1, i-j))
			if got := stamp.Compare(a, b); got != want {
				t.Errorf("Compare(%v, %v): %d, want %d", a, b, got, want)
			}
		}
	}
}

func TestCheck(t *testing.T) {
	for _, s := range risingThatMayBe() {
		if !stamp.Check(s) {
			t.Errorf("%v may be", s)
		}
	}
	for _, s := range []api.Stamp{
		{}, at(0, 0), at(0, 7), at(-1, 0), at(-1, 7), at(latest+1, 0), at(latest+1, 7), at(1, -1), at(1, 8), at(latest, -1), at(latest, 8),
		at(math.MinInt64, 0), at(math.MaxInt64, 0), at(5, math.MinInt), at(5, math.MaxInt), at(0, -1), at(latest+1, 8),
	} {
		if stamp.Check(s) {
			t.Errorf("%v may not be", s)
		}
	}
	for _, s := range rising() {
		if stamp.Check(s) != mayBe(s) {
			t.Errorf("Check(%v): %v", s, stamp.Check(s))
		}
	}
}

func TestGreatest(t *testing.T) {
	for _, c := range []struct {
		l    []api.Stamp
		want api.Stamp
	}{
		{nil, at(0, 0)},
		{[]api.Stamp{}, at(0, 0)},
		{[]api.Stamp{at(3, 1)}, at(3, 1)},
		{[]api.Stamp{at(3, 1), at(3, 2)}, at(3, 2)},
		{[]api.Stamp{at(3, 2), at(3, 1)}, at(3, 2)},
		{[]api.Stamp{at(2, 7), at(3, 0), at(1, 5)}, at(3, 0)},
		{[]api.Stamp{at(4, 4), at(4, 4), at(4, 4)}, at(4, 4)},
		{[]api.Stamp{at(1, 1), at(4, 4), at(4, 4), at(2, 7)}, at(4, 4)},
		{[]api.Stamp{at(latest, 7), at(latest, 6), at(latest-1, 7)}, at(latest, 7)},
		{[]api.Stamp{{}}, at(0, 0)},
	} {
		if got := stamp.Greatest(c.l...); got != c.want {
			t.Errorf("Greatest(%v): %v, want %v", c.l, got, c.want)
		}
	}
}

// TestGreatestAnyStamps: where all are below the zero stamp, too, which is only that of none.
func TestGreatestAnyStamps(t *testing.T) {
	s := source(1)
	l := rising()
	for n := 1; n <= len(l); n++ {
		some := shuffled(&s, append(slices.Clone(l[:n]), l[:n/2]...))
		if got := stamp.Greatest(some...); got != l[n-1] {
			t.Errorf("Greatest of %d, mixed: %v, want %v", n, got, l[n-1])
		}
		if got := stamp.Greatest(l[n-1], l[n-1]); got != l[n-1] {
			t.Errorf("Greatest of two equal ones: %v, want %v", got, l[n-1])
		}
	}
}

func TestNode(t *testing.T) {
	for _, c := range []struct {
		s    api.Stamp
		want int64
	}{
		{at(1, 0), leastNode}, {at(1, 1), 25}, {at(1, 7), 31}, {at(2, 0), 32}, {at(2, 3), 35}, {at(100, 5), 821},
		{at(1<<32, 1), 17 + 1<<35}, {at(latest-1, 7), mostNode - 8}, {at(latest, 0), mostNode - 7}, {at(latest, 7), mostNode},
	} {
		if got := stamp.Node(c.s); got != c.want {
			t.Errorf("Node(%v): %d, want %d", c.s, got, c.want)
		}
	}
	for _, s := range rising() {
		if got := stamp.Node(s); !mayBe(s) && got != 0 || mayBe(s) && got != 16+s.Time*8+int64(s.Site) {
			t.Errorf("Node(%v): %d", s, got)
		}
	}
}

func TestOf(t *testing.T) {
	wantOf(t, leastNode, at(1, 0))
	wantOf(t, 25, at(1, 1))
	wantOf(t, 31, at(1, 7))
	wantOf(t, 32, at(2, 0))
	wantOf(t, 821, at(100, 5))
	wantOf(t, 17+1<<35, at(1<<32, 1))
	wantOf(t, mostNode-8, at(latest-1, 7))
	wantOf(t, mostNode-7, at(latest, 0))
	wantOf(t, mostNode-1, at(latest, 6))
	wantOf(t, mostNode, at(latest, 7))
	for _, node := range noNodes() {
		wantNoStamp(t, node)
	}
}
