package stamp_test

import (
	"math"
	"slices"
	"testing"

	"orchard/api"
	"orchard/stamp"
)

// P11.3: CheckVector, Join, Meet, Above, Total.

// TestCheckVector: each part at each site, among others that may be.
func TestCheckVector(t *testing.T) {
	for _, rest := range []int64{0, 1, latest} {
		for site := range sites {
			for _, n := range parts() {
				v := all(rest)
				v[site] = n
				if got := stamp.CheckVector(v); got != (n >= 0 && n <= latest) {
					t.Errorf("CheckVector(%v): %v", v, got)
				}
			}
		}
	}
	for _, n := range []int64{-1, latest + 1, math.MinInt64, math.MaxInt64} {
		if stamp.CheckVector(all(n)) {
			t.Errorf("CheckVector of %d all over", n)
		}
	}
	if !stamp.CheckVector(api.Vector{}) || !stamp.CheckVector(api.Vector{0, 1, 2, latest, latest - 1, 7, 0, 1}) {
		t.Error("a vector that may be")
	}
}

func all(n int64) api.Vector { return api.Vector{n, n, n, n, n, n, n, n} }

func TestJoinAndMeet(t *testing.T) {
	low, high := int64(math.MinInt64), int64(math.MaxInt64)
	for _, c := range []struct {
		l          []api.Vector
		join, meet api.Vector
	}{
		{nil, api.Vector{}, api.Vector{}},
		{[]api.Vector{}, api.Vector{}, api.Vector{}},
		{[]api.Vector{{}}, api.Vector{}, api.Vector{}},
		{[]api.Vector{{1, 2, 3, 4, 5, 6, 7, 8}}, api.Vector{1, 2, 3, 4, 5, 6, 7, 8}, api.Vector{1, 2, 3, 4, 5, 6, 7, 8}},
		{[]api.Vector{{1, 0}, {0, 2}}, api.Vector{1, 2}, api.Vector{}},
		{[]api.Vector{{1, 5, 3, 0, 9, 9, 2, 4}, {2, 4, 3, 1, 8, 9, 0, 7}}, api.Vector{2, 5, 3, 1, 9, 9, 2, 7}, api.Vector{1, 4, 3, 0, 8, 9, 0, 4}},
		{[]api.Vector{{1, 5, 5}, {5, 1, 5}, {5, 5, 1}}, api.Vector{5, 5, 5}, api.Vector{1, 1, 1}},
		{[]api.Vector{{7, 1}, {7, 1}, {7, 1}}, api.Vector{7, 1}, api.Vector{7, 1}},
		{[]api.Vector{all(-3)}, all(-3), all(-3)},
		{[]api.Vector{all(-3), all(-2), all(-9)}, all(-2), all(-9)},
		{[]api.Vector{all(3), all(2), all(9)}, all(9), all(2)},
		{[]api.Vector{all(latest), all(latest + 1)}, all(latest + 1), all(latest)},
		{[]api.Vector{{low, high, low, high, 0, 0, -1, 1}, {high, low, low, high, low, high, 1, -1}},
			api.Vector{high, high, low, high, 0, high, 1, 1}, api.Vector{low, low, low, high, low, 0, -1, -1}},
	} {
		wantVector(t, "Join", stamp.Join(c.l...), c.join)
		wantVector(t, "Meet", stamp.Meet(c.l...), c.meet)
	}
}

// TestJoinAndMeetBySites: at each site the greatest and the least of what stands there, whatever stands elsewhere.
func TestJoinAndMeetBySites(t *testing.T) {
	s := source(2)
	for n := 1; n <= 40; n++ {
		l := s.vectors(n, parts())
		l = shuffled(&s, append(l, l[:n/3]...))
		join, meet := stamp.Join(l...), stamp.Meet(l...)
		for site := range sites {
			var column []int64
			for _, v := range l {
				column = append(column, v[site])
			}
			if join[site] != slices.Max(column) || meet[site] != slices.Min(column) {
				t.Fatalf("site %d of %v: Join %v, Meet %v", site, l, join, meet)
			}
		}
	}
}

func TestAbove(t *testing.T) {
	for _, c := range []struct {
		a, b api.Vector
		want bool
	}{
		{api.Vector{}, api.Vector{}, true},
		{api.Vector{1, 2}, api.Vector{1, 1}, true},
		{api.Vector{1, 2}, api.Vector{1, 2}, true},
		{api.Vector{1, 1}, api.Vector{1, 2}, false},
		{api.Vector{1, 0}, api.Vector{0, 2}, false},
		{api.Vector{0, 2}, api.Vector{1, 0}, false},
		{api.Vector{}, all(-1), true},
		{all(-1), api.Vector{}, false},
		{all(math.MaxInt64), all(math.MinInt64), true},
		{all(math.MinInt64), all(math.MaxInt64), false},
		{all(math.MinInt64), all(math.MinInt64), true},
	} {
		if got := stamp.Above(c.a, c.b); got != c.want {
			t.Errorf("Above(%v, %v): %v, want %v", c.a, c.b, got, c.want)
		}
	}
}

// TestAboveAtEachSite: one part, held against each other one, among equal and greater ones.
func TestAboveAtEachSite(t *testing.T) {
	for site := range sites {
		for _, x := range parts() {
			for _, y := range parts() {
				for _, rest := range []int64{5, 9} {
					a, b := all(rest), all(5)
					a[site], b[site] = x, y
					if got := stamp.Above(a, b); got != (x >= y) {
						t.Errorf("Above(%v, %v): %v", a, b, got)
					}
				}
				a, b := all(4), all(5)
				a[site], b[site] = x, y
				if stamp.Above(a, b) {
					t.Errorf("Above(%v, %v), where the others are below", a, b)
				}
			}
		}
	}
}

func TestTotal(t *testing.T) {
	for _, c := range []struct {
		v    api.Vector
		want int64
	}{
		{api.Vector{}, 0},
		{api.Vector{1, 2}, 3},
		{api.Vector{1, 2, 4, 8, 16, 32, 64, 128}, 255},
		{api.Vector{1, -2, 4, -8, 16, -32, 64, -128}, -85},
		{all(latest), 8 * latest},
		{api.Vector{math.MaxInt64, 1}, math.MinInt64},
		{api.Vector{math.MinInt64, -1}, math.MaxInt64},
		{api.Vector{0, 0, 0, 0, 0, 0, math.MaxInt64, math.MaxInt64}, -2},
		{api.Vector{math.MinInt64, math.MinInt64}, 0},
		{api.Vector{math.MinInt64, math.MaxInt64}, -1},
		{all(math.MaxInt64), -8},
		{all(math.MinInt64), 0},
	} {
		if got := stamp.Total(c.v); got != c.want {
			t.Errorf("Total(%v): %d, want %d", c.v, got, c.want)
		}
	}
}
