package exchange_test

import (
	"math"
	"slices"
	"testing"

	"orchard/api"
	"orchard/exchange"
	"orchard/stamp"
)

// P16.5.

// having is a state at site 0, of members, that has n operations of an origin, the last one of the time last.
func having(origin int, n, last int64) api.Snap {
	s := knowing()
	s.Vector[origin], s.Last[origin] = n, last
	return s
}

func TestNoOps(t *testing.T) {
	for i, x := range noOps(9, 2) {
		if stamp.CheckOp(x) == api.OK {
			t.Errorf("the operation %d may be: %v", i, x)
		}
	}
	for _, x := range []api.Op{op(1, 0), op(latest, 7), attr(9, 2)} {
		if err := stamp.CheckOp(x); err != api.OK {
			t.Errorf("the operation %v may not be: %d", x, err)
		}
	}
}

// TestTakeFromTheNextOn: what came from each number on, up to behind the next one.
func TestTakeFromTheNextOn(t *testing.T) {
	for origin := 1; origin < sites; origin++ {
		for have := range int64(6) {
			s := having(origin, have, have+10)
			for seq := range have + 3 {
				for n := range 8 {
					// The one with the number x has the time x + 11.
					ops := opsFrom(origin, seq+11, n)
					var want []api.Op
					if seq <= have {
						want = ops[min(int(have-seq), n):]
					}
					wantTake(t, "from the next on", s, origin, seq, ops, want)
				}
			}
		}
	}
}

func TestTakeFromNoNumber(t *testing.T) {
	for _, have := range []int64{0, 1, 5, latest - 1} {
		s := having(2, have, 3)
		ops := opsFrom(2, 4, 40)
		for _, seq := range []int64{-1, -2, -5, -latest, math.MinInt64, have + 1, have + 2, have + 40, math.MaxInt64} {
			wantTake(t, "from no number", s, 2, seq, ops, nil)
		}
	}
	for _, seq := range []int64{math.MinInt64, -1, 1, math.MaxInt64} {
		wantTake(t, "from no number, of none", having(2, 0, 0), 2, seq, opsFrom(2, 1, 3), nil)
	}
}

// TestTakeWhereTheNextIsNoNumber: what the state says that it has is no count, or the last one that may be.
func TestTakeWhereTheNextIsNoNumber(t *testing.T) {
	for _, have := range append(noCounts(), latest) {
		s := having(2, have, 3)
		for _, back := range []int64{0, 1, 2, 5, 39, 40, 41, latest} {
			wantTake(t, "where the next is no number", s, 2, have-back, opsFrom(2, 4, 40), nil)
		}
		wantTake(t, "where the next is no number, from 0 on", s, 2, 0, opsFrom(2, 4, 40), nil)
	}
}

// TestTakeUpToTheLastNumber: the last one that may be is the one below MaxTime.
func TestTakeUpToTheLastNumber(t *testing.T) {
	for room := range int64(4) {
		for back := range int64(3) {
			s := having(2, latest-room, 3)
			ops := opsFrom(2, 4-back, 8)
			wantTake(t, "up to the last number", s, 2, latest-room-back, ops, ops[back:back+room])
		}
	}
}

func TestTakeOfNoOrigin(t *testing.T) {
	for _, origin := range noSites() {
		s := knowing()
		s.Site = 3
		wantTake(t, "of no site", s, origin, 0, opsFrom(1, 4, 3), nil)
		wantTake(t, "of no site, of its own operations", s, origin, 0, opsFrom(origin, 4, 3), nil)
	}
}

// TestTakeOfItself: of each site at each site, and at none.
func TestTakeOfItself(t *testing.T) {
	for _, self := range append(noSites(), 0, 1, 2, 3, 4, 5, 6, 7) {
		for origin := range sites {
			s := having(origin, 2, 3)
			s.Site = self
			ops := opsFrom(origin, 4, 3)
			if self == origin {
				wantTake(t, "of itself", s, origin, 2, ops, nil)
			} else {
				wantTake(t, "of another one", s, origin, 2, ops, ops)
			}
		}
	}
}

// TestTakeByState: of one that never was a member nothing, of all others, also of such as are no states, all.
func TestTakeByState(t *testing.T) {
	for _, state := range []int{math.MinInt, -1, siteNone, siteMember, siteLeaving, siteRetired, 4, math.MaxInt} {
		s := having(2, 2, 3)
		s.Epoch.States = [sites]int{}
		s.Epoch.States[2] = state
		s.Epoch.Seals[2] = 100
		ops := opsFrom(2, 4, 3)
		if state == siteNone {
			wantTake(t, "by state", s, 2, 2, ops, nil)
		} else {
			wantTake(t, "by state", s, 2, 2, ops, ops)
		}
	}
}

// TestTakeUpToTheSeal: only of a site that is retired.
func TestTakeUpToTheSeal(t *testing.T) {
	for seal := int64(-1); seal < 15; seal++ {
		for back := range int64(3) {
			s := having(2, 5, 20)
			s.Epoch.Seals[2] = seal
			ops := opsFrom(2, 21-back, int(8+back)) // the numbers 5 - back to 12
			for _, state := range []int{siteMember, siteLeaving, -1, 4} {
				s.Epoch.States[2] = state
				wantTake(t, "a seal of one that is not retired", s, 2, 5-back, ops, ops[back:])
			}
			s.Epoch.States[2] = siteRetired
			wantTake(t, "up to the seal", s, 2, 5-back, ops, ops[back:back+min(max(seal-5, 0), 8)])
		}
	}
	s := having(2, 5, 20)
	s.Epoch.States[2] = siteRetired
	for _, seal := range []int64{math.MinInt64, math.MinInt64 + 1, math.MinInt64 + 5, math.MinInt64 + 6, -latest, 0} {
		s.Epoch.Seals[2] = seal
		wantTake(t, "a seal far below", s, 2, 5, opsFrom(2, 21, 3), nil)
	}
	for _, seal := range []int64{latest - 1, latest, latest + 1, math.MaxInt64} {
		s.Epoch.Seals[2] = seal
		wantTake(t, "a seal far above", s, 2, 5, opsFrom(2, 21, 3), opsFrom(2, 21, 3))
		s.Vector[2] = latest - 2
		wantTake(t, "a seal at the last number", s, 2, latest-2, opsFrom(2, 21, 3), opsFrom(2, 21, int(min(seal-latest+2, 2))))
		s.Vector[2] = 5
	}
}

// TestTakeUpToTheSealOfThatSite: others' seals and states do not matter.
func TestTakeUpToTheSealOfThatSite(t *testing.T) {
	s := having(2, 5, 20)
	for site := range sites {
		s.Epoch.States[site] = siteRetired
	}
	s.Epoch.Seals[2] = 7
	wantTake(t, "of the others 0", s, 2, 5, opsFrom(2, 21, 4), opsFrom(2, 21, 2))
	s.Epoch.Seals = api.Vector{99, 99, 7, 99, 99, 99, 99, 99}
	wantTake(t, "of the others more", s, 2, 5, opsFrom(2, 21, 4), opsFrom(2, 21, 2))
}

// TestTakeUpToWhatMayNotBe: at each place, each operation that stamp refuses.
func TestTakeUpToWhatMayNotBe(t *testing.T) {
	const n = 6
	for back := range 3 {
		s := having(2, 5, 20)
		for place := range n {
			for _, bad := range noOps(int64(21-back+place), 2) {
				ops := opsFrom(2, int64(21-back), n)
				ops[place] = bad
				if place < back {
					wantTake(t, "what may not be ahead of the next one", s, 2, int64(5-back), ops, ops[back:])
				} else {
					wantTake(t, "what may not be", s, 2, int64(5-back), ops, ops[back:place])
				}
			}
		}
	}
}

// TestTakeUpToAnothersOne: at each place, of each other site, and of none.
func TestTakeUpToAnothersOne(t *testing.T) {
	const n = 5
	for place := range n {
		for _, site := range append(noSites(), 0, 1, 3, 4, 5, 6, 7) {
			ops := opsFrom(2, 21, n)
			ops[place] = op(int64(21+place), site)
			wantTake(t, "another one's", having(2, 5, 20), 2, 5, ops, ops[:place])
		}
	}
}

// TestTakeAboveTheLastOne: times around the last one and the frontier.
func TestTakeAboveTheLastOne(t *testing.T) {
	for last := int64(-2); last < 8; last++ {
		for frontier := int64(-2); frontier < 8; frontier++ {
			s := having(2, 5, last)
			s.Frontier = frontier
			for time := int64(1); time < 10; time++ {
				ops := opsAt(2, time, 20)
				if time > last && time > frontier {
					wantTake(t, "above both", s, 2, 5, ops, ops)
				} else {
					wantTake(t, "not above both", s, 2, 5, ops, nil)
				}
				// The one ahead is no longer asked for, whatever its time is.
				ops = opsAt(2, 15, time, 20)
				if time > last && time > frontier {
					wantTake(t, "above both, behind another one", s, 2, 4, ops, ops[1:])
				} else {
					wantTake(t, "not above both, behind another one", s, 2, 4, ops, nil)
				}
			}
		}
	}
}

// TestTakeRising: the first one that does not rise, and all behind it, are left away.
func TestTakeRising(t *testing.T) {
	s := having(2, 0, 0)
	for _, c := range []struct {
		times []int64
		want  int
	}{
		{[]int64{1, 2, 3}, 3},
		{[]int64{1, 1, 3}, 1},
		{[]int64{1, 5, 4, 6}, 2},
		{[]int64{1, 5, 5, 6}, 2},
		{[]int64{7, 3}, 1},
		{[]int64{1, 100, 1000, latest - 1, latest}, 5},
		{[]int64{1, latest, latest}, 2},
		{[]int64{1, latest, latest + 1}, 2},
		{[]int64{0, 1}, 0},
		{[]int64{-1, 1}, 0},
		{[]int64{latest + 1, latest + 2}, 0},
		{[]int64{1, 2, 0, 3}, 2},
	} {
		ops := opsAt(2, c.times...)
		wantTake(t, "rising", s, 2, 0, ops, ops[:c.want])
	}
}

// TestTakeTimesAtTheEdges: what was last and the frontier at the edges of times.
func TestTakeTimesAtTheEdges(t *testing.T) {
	for _, edge := range []int64{math.MinInt64, -latest, -1, 0} {
		for _, s := range []api.Snap{having(2, 5, edge), atFrontier(edge)} {
			wantTake(t, "an edge below all", s, 2, 5, opsAt(2, 1, latest), opsAt(2, 1, latest))
		}
	}
	for _, s := range []api.Snap{having(2, 5, latest-1), atFrontier(latest - 1)} {
		wantTake(t, "one time is left", s, 2, 5, opsAt(2, latest, latest+1), opsAt(2, latest))
		wantTake(t, "the last but one", s, 2, 5, opsAt(2, latest-1, latest), nil)
	}
	for _, edge := range []int64{latest, latest + 1, math.MaxInt64} {
		for _, s := range []api.Snap{having(2, 5, edge), atFrontier(edge)} {
			wantTake(t, "no time is left", s, 2, 5, opsAt(2, latest, latest+1), nil)
			wantTake(t, "no time is left", s, 2, 5, opsAt(2, latest+2), nil)
		}
	}
}

func atFrontier(time int64) api.Snap {
	s := having(2, 5, 0)
	s.Frontier = time
	return s
}

// TestTakeOfThatOrigin: the numbers and times of others do not matter.
func TestTakeOfThatOrigin(t *testing.T) {
	for origin := 1; origin < sites; origin++ {
		s := having(origin, 5, 20)
		for other := range sites {
			if other != origin {
				s.Vector[other], s.Last[other], s.Epoch.States[other] = 99, 99, siteNone
			}
		}
		s.Clock, s.Clocks, s.Sure, s.Booted = 99, s.Last, s.Last, true
		wantTake(t, "of that origin", s, origin, 4, opsFrom(origin, 20, 3), opsFrom(origin, 21, 2))
	}
}

// TestTakeOfEachLength: more operations than a message has.
func TestTakeOfEachLength(t *testing.T) {
	for _, n := range []int{0, 1, 15, 16, 17, 32, 33, 5000} {
		ops := opsFrom(2, 21, n)
		wantTake(t, "of each length", having(2, 5, 20), 2, 5, ops, ops)
		wantTake(t, "of each length, from ahead of it", having(2, 5, 20), 2, 0, append(opsFrom(2, 16, 5), ops...), ops)
	}
}

// TestTakeOfEachKind: whatever stamp lets be.
func TestTakeOfEachKind(t *testing.T) {
	move := api.Op{Stamp: api.Stamp{Time: 22, Site: 2}, Kind: api.OpMove, Node: 24, Parent: 2, Name: "b"}
	ops := []api.Op{op(21, 2), move, attr(23, 2)}
	wantTake(t, "of each kind", having(2, 5, 20), 2, 5, ops, ops)
}

func TestTakeOfNothing(t *testing.T) {
	for _, ops := range [][]api.Op{nil, {}, opsFrom(2, 1, 3)[:0]} {
		for seq := range int64(8) {
			wantTake(t, "of nothing", having(2, 5, 20), 2, seq, ops, nil)
		}
	}
	if l := exchange.Take(having(2, 5, 20), 2, 5); len(l) != 0 {
		t.Error("of no operation:", l)
	}
	if l := exchange.Take(having(2, 5, 20), 2, 5, op(21, 2)); !slices.Equal(l, opsAt(2, 21)) {
		t.Error("of one operation:", l)
	}
}
