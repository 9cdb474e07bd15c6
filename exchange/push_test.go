package exchange_test

import (
	"math"
	"slices"
	"testing"

	"orchard/api"
	"orchard/exchange"
)

// P16.3.

// wantBatches: of one origin it tells the operations from the number slot on, in messages of these sizes.
func wantBatches(t *testing.T, what string, s api.Snap, origin int, to api.Addr, most int, slot int64, sizes ...int) {
	t.Helper()
	from := at(5, 1)
	ops := s.Kept[origin]
	var want []api.Msg
	for _, n := range sizes {
		i := slot - s.Starts[origin]
		want = append(want, push(s, from, to, origin, slot, ops[i:i+int64(n)]))
		slot += int64(n)
	}
	wantPush(t, what, s, from, to, most, want)
}

// sizesOf are the sizes of the messages of n operations.
func sizesOf(n int) []int {
	var l []int
	for ; n > batch; n -= batch {
		l = append(l, batch)
	}
	if n > 0 {
		l = append(l, n)
	}
	return l
}

const plenty = 1 << 20

func TestPushOfNothing(t *testing.T) {
	for _, from := range addrs() {
		for _, to := range addrs() {
			wantNoPush(t, "of nothing", api.Snap{}, from, to, plenty)
			wantNoPush(t, "of nothing among members", knowing(), from, to, plenty)
		}
	}
}

// TestPushOfEachLength: of each origin, to each site, as many as one message has, one fewer and one more.
func TestPushOfEachLength(t *testing.T) {
	for _, n := range []int{0, 1, 2, 15, 16, 17, 31, 32, 33, 48, 100} {
		for origin := range sites {
			for site := range sites {
				wantBatches(t, "all", keeping(origin, 0, n), origin, at(site, 2), plenty, 0, sizesOf(n)...)
			}
		}
	}
	wantBatches(t, "33", keeping(2, 5, 33), 2, at(1, 0), plenty, 5, 16, 16, 1)
	wantBatches(t, "32", keeping(2, 5, 32), 2, at(1, 0), plenty, 5, 16, 16)
}

// TestPushFromEachNumber: what the other one has is ahead of what is kept, at its first one, inside, at its end and behind that.
func TestPushFromEachNumber(t *testing.T) {
	for _, start := range []int64{0, 1, 5, latest - 40, latest - 3, latest} {
		for _, n := range []int{1, 15, 16, 17, 32, 33} {
			for known := max(0, start-3); known <= start+int64(n)+3; known++ {
				s := keeping(3, start, n)
				s.Known[6][3] = known
				sizes := sizesOf(n - int(known-start))
				if known < start || known > latest {
					sizes = nil
				}
				wantBatches(t, "from a number", s, 3, at(6, 0), plenty, known, sizes...)
			}
		}
	}
}

// TestPushOfNoCounts: what the other one has, or where what is kept begins, is no count.
func TestPushOfNoCounts(t *testing.T) {
	for _, n := range noCounts() {
		s := keeping(3, 5, 20)
		s.Known[6][3] = n
		wantNoPush(t, "known is no count", s, at(0, 0), at(6, 0), plenty)
		for _, known := range append(noCounts(), 0, 1, 7, n+1, n+5, n-1, latest) {
			s = keeping(3, 0, 20)
			s.Starts[3], s.Known[6][3] = n, known
			wantNoPush(t, "the start is no count", s, at(0, 0), at(6, 0), plenty)
		}
	}
}

// TestPushAtTheLastCount: numbers may go on above it, but not begin there.
func TestPushAtTheLastCount(t *testing.T) {
	s := keeping(3, latest-2, 20)
	s.Known[6][3] = latest
	wantBatches(t, "known is the last count", s, 3, at(6, 0), plenty, latest, 16, 2)
	s.Known[6][3] = latest + 1
	wantNoPush(t, "known is above it", s, at(0, 0), at(6, 0), plenty)
	s = keeping(3, latest, 20)
	s.Known[6][3] = latest
	wantBatches(t, "the start is the last count", s, 3, at(6, 0), plenty, latest, 16, 4)
}

// manyOrigins keeps of each origin another number of operations, from 3 on; the site 4 has 5 of each.
func manyOrigins() api.Snap {
	s := knowing()
	for o, n := range []int{20, 0, 1, 3, 18, 19, 40, 35} {
		s.Starts[o], s.Kept[o], s.Known[4][o] = 3, opsFrom(o, 9, n), 5
	}
	return s
}

// allOf are the messages of manyOrigins.
func allOf(s api.Snap, from, to api.Addr) []api.Msg {
	var l []api.Msg
	for o := range sites {
		slot := int64(5)
		for _, n := range sizesOf(len(s.Kept[o]) - 2) {
			l = append(l, push(s, from, to, o, slot, s.Kept[o][slot-3:slot-3+int64(n)]))
			slot += int64(n)
		}
	}
	return l
}

func TestPushOfManyOrigins(t *testing.T) {
	s := manyOrigins()
	all := allOf(s, at(0, 1), at(4, 3))
	wantPush(t, "many origins", s, at(0, 1), at(4, 3), plenty, all)
	want := [][3]int64{{0, 5, 16}, {0, 21, 2}, {3, 5, 1}, {4, 5, 16}, {5, 5, 16}, {5, 21, 1}, {6, 5, 16}, {6, 21, 16}, {6, 37, 6}, {7, 5, 16}, {7, 21, 16}, {7, 37, 1}}
	if got := lengths(slices.Collect(exchange.Push(s, at(0, 1), at(4, 3), plenty))); !slices.Equal(got, want) {
		t.Errorf("many origins: %v, want %v", got, want)
	}
}

// cut are messages of at most so many operations in all.
func cut(l []api.Msg, most int) []api.Msg {
	var out []api.Msg
	for _, m := range l {
		if most <= 0 {
			break
		}
		m.Ops = m.Ops[:min(most, len(m.Ops))]
		most -= len(m.Ops)
		out = append(out, m)
	}
	return out
}

// TestPushWithMost: each limit up to as many as there are, and above.
func TestPushWithMost(t *testing.T) {
	s := manyOrigins()
	all := allOf(s, at(0, 1), at(4, 3))
	total := 0
	for _, m := range all {
		total += len(m.Ops)
	}
	for most := range total + 40 {
		wantPush(t, "with most", s, at(0, 1), at(4, 3), most, cut(all, most))
	}
	for _, most := range []int{math.MaxInt, math.MaxInt - 1, 1 << 32, 1 << 40} {
		wantPush(t, "with a most far above", s, at(0, 1), at(4, 3), most, all)
	}
	for _, most := range []int{0, -1, -2, -batch, -1 << 32, math.MinInt} {
		wantNoPush(t, "with no most", s, at(0, 1), at(4, 3), most)
	}
}

func TestPushWithMostOfOneOrigin(t *testing.T) {
	for _, n := range []int{1, 15, 16, 17, 32, 33} {
		for most := -1; most <= n+2; most++ {
			wantBatches(t, "with most of one origin", keeping(2, 7, n), 2, at(0, 0), most, 7, sizesOf(min(n, most))...)
		}
	}
}

func TestPushFromAndTo(t *testing.T) {
	s := manyOrigins()
	for site := range sites {
		s.Known[site] = s.Known[4]
	}
	for _, from := range addrs() {
		for _, to := range addrs() {
			if to.Group == config {
				wantNoPush(t, "to the configuration", s, from, to, plenty)
			} else {
				wantPush(t, "from and to", s, from, to, plenty, allOf(s, from, to))
			}
		}
	}
	for _, bad := range noAddrs() {
		for _, good := range addrs() {
			wantNoPush(t, "from no address", s, bad, good, plenty)
			wantNoPush(t, "to no address", s, good, bad, plenty)
		}
		wantNoPush(t, "neither", s, bad, bad, plenty)
	}
}

// TestPushByWhatThatSiteHas: of several sites by the one's vector to which it goes, whatever replica of it.
func TestPushByWhatThatSiteHas(t *testing.T) {
	s := keeping(2, 5, 30)
	for site := range sites {
		s.Known[site][2] = int64(5 + 3*site)
	}
	for site := range sites {
		for replica := range 5 {
			wantBatches(t, "by what it has", s, 2, at(site, replica), plenty, int64(5+3*site), sizesOf(30-3*site)...)
		}
	}
}

// TestPushLooksAtNothingElse: states, the own site, vectors and the epoch's seals do not matter, nor which operations are kept.
func TestPushLooksAtNothingElse(t *testing.T) {
	s := manyOrigins()
	s.Site, s.Vector, s.Last, s.Frontier = 3, api.Vector{}, api.Vector{1, 2, 3}, latest
	s.Epoch = api.Epoch{Number: math.MinInt64, States: [sites]int{3, 3, 0, 0, 9, -1}}
	s.Kept[0] = noOps(7, 1)
	s.Kept[1] = make([]api.Op, 20)
	wantPush(t, "whatever it is", s, at(0, 1), at(4, 3), plenty, allOf(s, at(0, 1), at(4, 3)))
}

// TestPushOfEmptyLists: R4, and one origin's empty list is no end of the others.
func TestPushOfEmptyLists(t *testing.T) {
	s := manyOrigins()
	want := allOf(s, at(0, 1), at(4, 3))
	for o := range s.Kept {
		if len(s.Kept[o]) == 0 {
			s.Kept[o] = []api.Op{}
		}
	}
	wantPush(t, "empty lists", s, at(0, 1), at(4, 3), plenty, want)
}
