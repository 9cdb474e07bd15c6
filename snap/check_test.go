package snap_test

import (
	"fmt"
	"math"
	"strings"
	"testing"

	"orchard/api"
	"orchard/record"
)

// P14.1: which numbers of a state may be, in each field and each place of it; P14.2 of these: what may not be is neither written nor read.

// edge is a number, and whether it may be.
type edge struct {
	n  int64
	ok bool
}

// between are the edges of what may be from least to most.
func between(least, most int64) []edge {
	return []edge{
		{math.MinInt64, false}, {-latest, false}, {least - 1, false}, {least, true}, {least + 1, true},
		{most - 1, true}, {most, true}, {most + 1, false}, {1 << 62, false}, {math.MaxInt64, false},
	}
}

func aCount() []edge { return between(0, latest) }

// edgesBy are the edges of a whole state's places, by their patterns.
func edgesBy() map[string][]edge {
	return map[string][]edge{
		"Site":                     between(0, 7),
		"Applied":                  aCount(),
		"Epoch.Number":             aCount(),
		"Epoch.States[*]":          between(0, 3),
		"Epoch.Seals[*]":           aCount(),
		"Epoch.Sponsor[*]":         between(-1, 7),
		"Clock":                    aCount(),
		"Last[*]":                  aCount(),
		"Known[*][*]":              aCount(),
		"Told[*]":                  aCount(),
		"Clocks[*]":                aCount(),
		"Sure[*]":                  aCount(),
		"Rows[*].Request":          between(1, latest),
		"Rows[*].Reply.Err":        between(0, 999),
		"Rows[*].Reply.Stamp.Time": aCount(),
		"Rows[*].Reply.Stamp.Site": between(0, 7),
		"Rows[*].Reply.Node":       between(0, mostNode),
		"Parts[*].Snap":            aCount(),
		// They go by the parts' Many, which are 5 and 6, and their Index, which is 2.
		"Parts[*].Index": {{math.MinInt64, false}, {-1, false}, {0, true}, {4, true}, {6, false}, {math.MaxInt64, false}},
		"Parts[*].Many":  {{math.MinInt64, false}, {-1, false}, {0, false}, {2, false}, {3, true}, {mostMany, true}, {mostMany + 1, false}, {math.MaxInt64, false}},
	}
}

// isAskedElsewhere tells of a place whether what it may be hangs on others: these have tests of their own.
func isAskedElsewhere(p place) bool {
	switch p.field() {
	case "Booted", "Vector", "Starts", "Frontier", "Base", "Log", "Kept":
		return true
	}
	return p.pattern() == "Rows[*].Session" || p.pattern() == "Parts[*].Data[*]"
}

func TestNumbers(t *testing.T) {
	s := whole()
	wantMayBe(t, "a whole state", s)
	edges := edgesBy()
	for i, p := range places(&s) {
		l, ok := edges[p.pattern()]
		if !ok && !isAskedElsewhere(p) {
			t.Fatal("no test asks what this place may be:", p.path)
		}
		for _, e := range l {
			c := whole()
			places(&c)[i].v.SetInt(e.n)
			wantState(t, fmt.Sprint(p.path, " at ", e.n), c, e.ok)
		}
	}
}

func TestZeroState(t *testing.T) {
	wantMayBe(t, "the zero state", api.Snap{})
	wantMayBe(t, "one that is booted", api.Snap{Booted: true})
}

// TestAllAtTheirEdges: all counts of a state at their greatest at once.
func TestAllAtTheirEdges(t *testing.T) {
	all := api.Vector{latest, latest, latest, latest, latest, latest, latest, latest}
	s := api.Snap{Site: 7, Applied: latest, Clock: latest, Frontier: latest, Vector: all, Last: all, Starts: all, Told: all, Clocks: all, Sure: all}
	s.Epoch = api.Epoch{Number: latest, Seals: all}
	for site := range sites {
		s.Epoch.States[site], s.Epoch.Sponsor[site], s.Known[site] = 3, 7, all
	}
	s.Rows = []api.Row{{Session: latest, Request: latest, Reply: api.Reply{Err: 999, Stamp: at(latest, 7), Node: mostNode}}}
	s.Parts = []api.Part{{Snap: latest, Index: mostMany - 1, Many: mostMany, Data: make([]byte, data)}}
	wantMayBe(t, "all counts at their greatest", s)
	for site := range sites {
		keep(&s, site, nil)
		s.Starts[site]--
		keep(&s, site, []api.Op{anOp(site, latest, site)})
	}
	wantMayBe(t, "all counts at their greatest, with an operation kept", s)
}

// TestVectorAndStarts: a site's first number and how many are kept come to its vector.
func TestVectorAndStarts(t *testing.T) {
	for site := range sites {
		for many := range 4 {
			for _, start := range []int64{0, 1, 2, 70, latest - 4, latest - 3} {
				for off := int64(-3); off <= 3; off++ {
					s := api.Snap{}
					s.Starts[site], s.Kept[site] = start, opsOf(site, many, 9)
					s.Vector[site] = start + int64(many) + off
					ok := off == 0 && s.Vector[site] <= latest
					wantState(t, fmt.Sprintf("site %d: Starts %d, %d kept, Vector %d", site, start, many, s.Vector[site]), s, ok)
				}
			}
		}
	}
}

// TestVectorAndStartsOfAnother: what is kept of one site is not counted for another one.
func TestVectorAndStartsOfAnother(t *testing.T) {
	for site := range sites {
		other := (site + 1) % sites
		wantMayNot(t, "another one's number", bare(func(s *api.Snap) { s.Kept[site], s.Vector[other] = opsOf(site, 1, 9), 1 }))
		wantMayNot(t, "another one's start", bare(func(s *api.Snap) { s.Starts[site], s.Vector[other] = 1, 1 }))
		wantMayNot(t, "a start alone", bare(func(s *api.Snap) { s.Starts[site] = 2 }))
		wantMayNot(t, "a number alone", bare(func(s *api.Snap) { s.Vector[site] = 1 }))
	}
}

// TestStartsAndVectorAreCounts: also where they come to one another.
func TestStartsAndVectorAreCounts(t *testing.T) {
	for site := range sites {
		for _, n := range []int64{math.MinInt64, -latest, -2, -1, latest + 1, math.MaxInt64} {
			wantMayNot(t, fmt.Sprint("both ", n), bare(func(s *api.Snap) { s.Starts[site], s.Vector[site] = n, n }))
		}
		for many := 1; many < 4; many++ {
			wantMayNot(t, "Starts below 0", bare(func(s *api.Snap) {
				s.Starts[site] = -1
				keep(s, site, opsOf(site, many, 9))
			}))
			wantMayNot(t, "Vector above MaxTime", bare(func(s *api.Snap) {
				s.Starts[site] = latest - int64(many) + 1
				keep(s, site, opsOf(site, many, 9))
			}))
		}
	}
}

// TestSessions: each session of a list, alone and with others.
func TestSessions(t *testing.T) {
	for _, e := range between(1, latest) {
		row := api.Row{Session: e.n, Request: 1}
		wantState(t, fmt.Sprint("the session ", e.n), api.Snap{Rows: []api.Row{row}}, e.ok)
		wantState(t, fmt.Sprint("the request ", e.n), api.Snap{Rows: []api.Row{{Session: 1, Request: e.n}}}, e.ok)
	}
	for _, c := range []struct {
		sessions []int64
		ok       bool
	}{
		{[]int64{1, 2}, true}, {[]int64{1, latest}, true}, {[]int64{2, 1}, false}, {[]int64{1, 1}, false}, {[]int64{latest, latest}, false},
		{[]int64{0, 1}, false}, {[]int64{-1, 1}, false}, {[]int64{1, latest + 1}, false}, {[]int64{latest, 1}, false},
		{[]int64{1, 2, 3}, true}, {[]int64{1, 3, 2}, false}, {[]int64{2, 1, 3}, false}, {[]int64{1, 1, 3}, false}, {[]int64{1, 3, 3}, false}, {[]int64{1, 3, 1}, false},
	} {
		var s api.Snap
		for _, n := range c.sessions {
			s.Rows = append(s.Rows, api.Row{Session: n, Request: 9})
		}
		wantState(t, fmt.Sprint("the sessions ", c.sessions), s, c.ok)
	}
}

func rowsOf(n int) []api.Row {
	var l []api.Row
	for i := range n {
		l = append(l, api.Row{Session: int64(i + 1), Request: int64(n - i)})
	}
	return l
}

func TestSessionsTwiceAtEachPlace(t *testing.T) {
	for i := 1; i < sessions; i++ {
		s := api.Snap{Rows: rowsOf(sessions)}
		s.Rows[i].Session = s.Rows[i-1].Session
		wantMayNot(t, fmt.Sprint("a session twice, at ", i), s)
		s.Rows[i].Session = 0
		wantMayNot(t, fmt.Sprint("no session, at ", i), s)
	}
}

func TestHowManyRows(t *testing.T) {
	for _, n := range []int{0, 1, 2, sessions - 1, sessions} {
		wantMayBe(t, fmt.Sprint(n, " rows"), api.Snap{Rows: rowsOf(n)})
	}
	for _, n := range []int{sessions + 1, 2 * sessions, 4096, members, members + 1} {
		wantMayNot(t, fmt.Sprint(n, " rows"), api.Snap{Rows: rowsOf(n)})
	}
}

// TestReplies: a reply needs no stamp that an operation could have, and its Node need be none that a stamp makes.
func TestReplies(t *testing.T) {
	for _, r := range []api.Reply{
		{}, {Err: api.ErrGuard}, {Err: 1}, {Err: 998, Stamp: at(5, 1)}, {Stamp: at(0, 7)}, {Stamp: at(1, 0)}, {Node: 1}, {Node: 23}, {Node: 3, Stamp: at(9, 1)},
	} {
		wantMayBe(t, fmt.Sprint("the reply ", r), api.Snap{Rows: []api.Row{{Session: 1, Request: 1, Reply: r}}})
	}
}

// TestPartsOfAnyKind: nothing is said of their order, nor of what they are together.
func TestPartsOfAnyKind(t *testing.T) {
	a, b := someParts()[0], someParts()[1]
	empty := api.Part{Many: 1}
	for _, l := range [][]api.Part{{a, b}, {b, a}, {a, a}, {a, b, a}, {empty}, {empty, empty, b}, {{Snap: 1, Index: 3, Many: 4}}} {
		wantMayBe(t, fmt.Sprint("the parts ", l), api.Snap{Parts: l})
	}
	wantMayNot(t, "the zero part", api.Snap{Parts: []api.Part{{}}})
}

func TestDataOfParts(t *testing.T) {
	for _, n := range []int{0, 1, 63, 64, data - 1, data, data + 1, 2 * data} {
		for i := range 3 {
			s := api.Snap{Parts: []api.Part{{Many: 1}, {Many: 1, Data: []byte("a")}, {Many: 1}}}
			s.Parts[i].Data = []byte(strings.Repeat("d", n))
			wantState(t, fmt.Sprint(n, " bytes of the part ", i), s, n <= data)
		}
	}
}

// TestEpochIsRecords: the configuration is taken just if record takes it.
func TestEpochIsRecords(t *testing.T) {
	for _, e := range []api.Epoch{
		{}, whole().Epoch, {Number: -1}, {Number: latest + 1}, {States: [sites]int{7: 4}}, {States: [sites]int{-1}}, {Seals: api.Vector{3: -1}},
		{Seals: api.Vector{7: latest}}, {Sponsor: [sites]int{8}}, {Sponsor: [sites]int{7: -2}}, {Sponsor: [sites]int{-1, -1, -1, -1, -1, -1, -1, -1}},
	} {
		wantState(t, fmt.Sprintf("the configuration %+v", e), changed(func(s *api.Snap) { s.Epoch = e }), record.CheckEpoch(e) == api.OK)
		wantState(t, fmt.Sprintf("the configuration %+v alone", e), api.Snap{Epoch: e}, record.CheckEpoch(e) == api.OK)
	}
}

// faults each make a state such that it may not be.
func faults() []func(s *api.Snap) {
	return []func(s *api.Snap){
		func(s *api.Snap) { s.Site = 8 },
		func(s *api.Snap) { s.Applied = -1 },
		func(s *api.Snap) { s.Epoch.Number = -1 },
		func(s *api.Snap) { s.Clock = latest + 1 },
		func(s *api.Snap) { s.Vector[0]++ },
		func(s *api.Snap) { s.Last[7] = -1 },
		func(s *api.Snap) { s.Base = append(s.Base, node(3, root, "a")) },
		func(s *api.Snap) { s.Log = append(s.Log, s.Log...) },
		func(s *api.Snap) { s.Frontier = 21 },
		func(s *api.Snap) { s.Starts[7]++ },
		func(s *api.Snap) { s.Kept[3][0].Kind = 4 },
		func(s *api.Snap) { s.Known[7][7] = -1 },
		func(s *api.Snap) { s.Told[0] = -1 },
		func(s *api.Snap) { s.Clocks[1] = -1 },
		func(s *api.Snap) { s.Sure[2] = -1 },
		func(s *api.Snap) { s.Rows[1].Session = 0 },
		func(s *api.Snap) { s.Parts[1].Many = 0 },
	}
}

// TestSeveralFaults: each fault alone, and every two of them.
func TestSeveralFaults(t *testing.T) {
	for i, one := range faults() {
		wantMayNot(t, fmt.Sprint("the fault ", i), changed(one))
		for j, other := range faults() {
			if j != i {
				wantMayNot(t, fmt.Sprint("the faults ", i, " and ", j), changed(func(s *api.Snap) { one(s); other(s) }))
			}
		}
	}
	wantMayNot(t, "all faults", changed(func(s *api.Snap) {
		for _, fault := range faults() {
			fault(s)
		}
	}))
}
