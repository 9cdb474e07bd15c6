package snap_test

import (
	"fmt"
	"slices"
	"testing"

	"orchard/api"
	"orchard/record"
	"orchard/snap"
	"orchard/wire"
)

// P14.2: the form, and ErrLong.

// handState is a state whose form is worked out by hand: an int n of 0 to 63 is the byte 2 n, -1 the byte 1, 64 the bytes 128 1.
func handState() api.Snap {
	s := api.Snap{
		Site: 1, Applied: 2, Booted: true, Clock: 4, Frontier: 5,
		Epoch: api.Epoch{Number: 3, States: [sites]int{1, 2, 3}, Seals: api.Vector{2: 10}, Sponsor: [sites]int{-1, 7, 0, 1, 2, 3, 4, 5}},
		Last:  api.Vector{7, 8, 9, 10, 11, 12, 13, 14},
		Base: []api.TreeNode{
			node(root, 0, "", attr("k", "ab")),
			node(24, root, "a", attr("x", "y"), attr("z", "w")),
			node(64, 24, "bc"),
		},
		Log:    []api.Op{aMake(6, 0, root, "d"), anAttr(6, 1, trash, "e", "")},
		Starts: api.Vector{15, 16, 17, 18, 19, 20, 21, 22},
		Told:   api.Vector{23, 24, 25, 26, 27, 28, 29, 30},
		Clocks: api.Vector{31, 32, 33, 34, 35, 36, 37, 38},
		Sure:   api.Vector{39, 40, 41, 42, 43, 44, 45, 46},
		Rows:   []api.Row{{Session: 1, Request: 2, Reply: api.Reply{Err: 3, Stamp: at(4, 5), Node: 6}}, {Session: 63, Request: 1}},
		Parts:  []api.Part{{Snap: 7, Index: 8, Many: 9, Data: []byte{255, 0}}, {Many: 1}},
	}
	for site := range sites {
		s.Known[site][site], s.Known[site][(site+1)%sites] = int64(47+site), 1
		keep(&s, site, nil)
	}
	keep(&s, 2, []api.Op{aMove(1, 2, 24, root, "f")})
	keep(&s, 7, []api.Op{anAttr(2, 7, root, "g", "h"), anAttr(3, 7, 24, "i", "j")})
	return s
}

func handForm() []byte {
	return slices.Concat(
		// Site, Applied, Booted; Epoch; Clock
		[]byte{2, 4, 2},
		[]byte{6, 2, 4, 6, 0, 0, 0, 0, 0, 0, 0, 20, 0, 0, 0, 0, 0, 1, 14, 0, 2, 4, 6, 8, 10},
		[]byte{8},
		// Vector, Last
		[]byte{30, 32, 36, 36, 38, 40, 42, 48},
		[]byte{14, 16, 18, 20, 22, 24, 26, 28},
		// Base
		[]byte{6, 2, 0, 0, 2, 2, 'k', 4, 'a', 'b'},
		[]byte{48, 2, 2, 'a', 4, 2, 'x', 2, 'y', 2, 'z', 2, 'w'},
		[]byte{128, 1, 48, 4, 'b', 'c', 0},
		// Log, Frontier
		[]byte{4, 12, 0, 2, 128, 1, 2, 2, 'd', 0, 0},
		[]byte{12, 2, 6, 4, 0, 0, 2, 'e', 0},
		[]byte{10},
		// Starts
		[]byte{30, 32, 34, 36, 38, 40, 42, 44},
		// Kept
		[]byte{0, 0},
		[]byte{2, 2, 4, 4, 48, 2, 2, 'f', 0, 0},
		[]byte{0, 0, 0, 0},
		[]byte{4, 4, 14, 6, 2, 0, 0, 2, 'g', 2, 'h', 6, 14, 6, 48, 0, 0, 2, 'i', 2, 'j'},
		// Known
		[]byte{94, 2, 0, 0, 0, 0, 0, 0, 0, 96, 2, 0, 0, 0, 0, 0, 0, 0, 98, 2, 0, 0, 0, 0, 0, 0, 0, 100, 2, 0, 0, 0},
		[]byte{0, 0, 0, 0, 102, 2, 0, 0, 0, 0, 0, 0, 0, 104, 2, 0, 0, 0, 0, 0, 0, 0, 106, 2, 2, 0, 0, 0, 0, 0, 0, 108},
		// Told, Clocks, Sure
		[]byte{46, 48, 50, 52, 54, 56, 58, 60},
		[]byte{62, 64, 66, 68, 70, 72, 74, 76},
		[]byte{78, 80, 82, 84, 86, 88, 90, 92},
		// Rows, Parts
		[]byte{4, 2, 4, 6, 8, 10, 12, 126, 2, 0, 0, 0, 0},
		[]byte{4, 14, 16, 18, 4, 255, 0, 0, 0, 2, 0},
	)
}

func TestFormByHand(t *testing.T) {
	wantBytes(t, "Marshal", formOf(t, handState()), handForm())
	s, err := snap.Unmarshal(handForm())
	wantErr(t, "Unmarshal", err, api.OK)
	wantSame(t, "Unmarshal", s, handState())
	wantBytes(t, "the model's form", modelForm(handState()), handForm())
}

// TestOpsAndEpochsAreRecords: their forms are those that record puts.
func TestOpsAndEpochsAreRecords(t *testing.T) {
	w := wire.NewWriter()
	wantErr(t, "PutEpoch", record.PutEpoch(w, whole().Epoch), api.OK)
	bare := formOf(t, api.Snap{Epoch: whole().Epoch})
	wantBytes(t, "a configuration", bare[3:3+w.Len()], w.Out())
	for i, op := range someLog() {
		w := wire.NewWriter()
		wantErr(t, "PutOp", record.PutOp(w, op), api.OK)
		b := formOf(t, withLog(20, op))
		const ahead = 3 + 25 + 1 + 16 + 1 + 1
		wantBytes(t, fmt.Sprint("the operation ", i), b[ahead:ahead+w.Len()], w.Out())
	}
}

// TestPartsAreRecords: a part's form is what record writes of it behind an entry's Kind.
func TestPartsAreRecords(t *testing.T) {
	for _, p := range append(someParts(), api.Part{Many: 1}, api.Part{Snap: latest, Index: 70, Many: mostMany, Data: make([]byte, data)}) {
		e, err := record.Entry(api.Entry{Kind: api.EnPart, Part: p})
		wantErr(t, "Entry", err, api.OK)
		b := formOf(t, api.Snap{Parts: []api.Part{p}})
		wantBytes(t, "a part", b[154:], e[1:])
	}
}

// stretches give a state a list, whose members have texts that come to total, beside others that stay.
func stretches() map[string]func(s *api.Snap, total int) {
	return map[string]func(s *api.Snap, total int){
		"Base":  func(s *api.Snap, total int) { s.Base = stretchedNodes(total) },
		"Log":   func(s *api.Snap, total int) { s.Log = stretchedOps(3, total) },
		"Kept":  func(s *api.Snap, total int) { keep(s, 6, stretchedOps(6, total)) },
		"Parts": func(s *api.Snap, total int) { s.Parts = stretchedParts(total) },
	}
}

// cut are many lengths that come to total.
func cut(total, many int) []int {
	l := make([]int, many)
	for i := range l {
		l[i] = total / many
		if i < total%many {
			l[i]++
		}
	}
	return l
}

func stretchedNodes(total int) []api.TreeNode {
	var l []api.TreeNode
	for i, n := range cut(total, 1400) {
		l = append(l, node(int64(10000+i), root, long(n), attr(long(text), long(text))))
	}
	return l
}

func stretchedOps(site, total int) []api.Op {
	var l []api.Op
	for i, n := range cut(total, 2500) {
		l = append(l, anAttr(int64(10000+i), site, root, long(n), long(text)))
	}
	return l
}

func stretchedParts(total int) []api.Part {
	var l []api.Part
	for _, n := range cut(total, 100) {
		l = append(l, api.Part{Many: 1, Data: make([]byte, n)})
	}
	return l
}

// stretched are whole states whose forms have n bytes and more: so many more as it is asked for.
func stretched(t *testing.T, by string, n int) func(more int) api.Snap {
	t.Helper()
	return stretchedFrom(t, whole(), by, n)
}

func stretchedFrom(t *testing.T, s api.Snap, by string, n int) func(more int) api.Snap {
	t.Helper()
	stretch := stretches()[by]
	// The texts' lengths take as many bytes for this total as for those that are asked for.
	total := map[string]int{"Base": 1400 * 200, "Log": 2500 * 130, "Kept": 2500 * 130, "Parts": 100 * 10000}[by]
	stretch(&s, total)
	total += n - len(modelForm(s))
	made := func(more int) api.Snap {
		c := s
		stretch(&c, total+more)
		return c
	}
	if got := len(modelForm(made(0))); got != n {
		t.Fatalf("stretched by %s: a form of %d bytes, want %d", by, got, n)
	}
	return made
}

func TestMarshalUpToMaxBytes(t *testing.T) {
	for by := range stretches() {
		made := stretched(t, by, mostForm)
		for more := -3; more <= 0; more++ {
			wantMayBe(t, fmt.Sprint(more, " bytes more by ", by), made(more))
		}
		for more := range 9 {
			wantLong(t, fmt.Sprint(more+1, " bytes more by ", by), made(more+1))
		}
	}
}

// wantLong: the state may be, since Marshal would tell that first.
func wantLong(t *testing.T, what string, s api.Snap) {
	t.Helper()
	b, err := snap.Marshal(s)
	wantErr(t, "Marshal: "+what, err, api.ErrLong)
	wantNone(t, "Marshal: "+what, b)
}

// TestLongAtEachByte: wherever in a form the byte stands for which there is no room any more, and whatever stands behind it.
func TestLongAtEachByte(t *testing.T) {
	made := stretched(t, "Base", mostForm)
	behind := len(modelForm(changed(func(s *api.Snap) { s.Base = nil })))
	for n := range behind + 50 {
		wantLong(t, fmt.Sprint("room for all but ", n+1, " bytes"), made(n+1))
	}
}

// TestShortThingsBehindALongOne: behind something that finds no room stands what would find some; it is not put in its place.
func TestShortThingsBehindALongOne(t *testing.T) {
	last := anAttr(latest, 7, root, long(text), "")
	for i, s := range []api.Snap{
		{},
		{Log: []api.Op{last}},
		withKept(7, last),
		withKept(7, aMake(latest, 7, root, long(text))),
		{Rows: []api.Row{{Session: latest, Request: 1}}},
		{Rows: []api.Row{{Session: 1, Request: latest, Reply: api.Reply{Stamp: at(latest, 0)}}}},
		{Parts: []api.Part{{Snap: latest, Many: 1}}},
		{Parts: []api.Part{{Many: 1, Data: make([]byte, 300)}, {Many: 1}}},
	} {
		made := stretchedFrom(t, s, "Base", mostForm)
		// Each byte where numbers stand last, else such steps as no text of 255 bytes is passed over by.
		for more := 1; more < 400; more += 1 + more/30*20 {
			wantLong(t, fmt.Sprint("the state ", i, ", ", more, " bytes more"), made(more))
		}
	}
}

// TestErrSnapAheadOfErrLong: of a state that may not be, however long its form would be.
func TestErrSnapAheadOfErrLong(t *testing.T) {
	for by := range stretches() {
		s := stretched(t, by, mostForm)(9)
		for _, wrong := range []func(s *api.Snap){
			func(s *api.Snap) { s.Site = 8 },
			func(s *api.Snap) { s.Sure[7] = -1 },
			func(s *api.Snap) { s.Rows[2].Reply.Node = -1 },
			func(s *api.Snap) { s.Parts[len(s.Parts)-1].Many = 0 },
		} {
			c := snap.Clone(s)
			wrong(&c)
			b, err := snap.Marshal(c)
			wantErr(t, "Marshal: too long, and it may not be", err, api.ErrSnap)
			wantNone(t, "Marshal", b)
		}
	}
}

// TestFarTooLong: lists of as many members as may be, each as long as it may be.
func TestFarTooLong(t *testing.T) {
	l := nodesOf(members)
	for i := range l {
		l[i].Name = long(text)
	}
	wantLong(t, "long names", api.Snap{Base: l})
	ops := attrOps(4, members)
	for i := range ops {
		ops[i].Key, ops[i].Value = long(text), long(text)
	}
	wantLong(t, "long keys and values", withLog(0, ops...))
	s := api.Snap{Base: l, Log: ops}
	for site := range sites {
		keep(&s, site, attrOps(site, members))
	}
	wantLong(t, "all lists long", s)
	wantLong(t, "long parts", api.Snap{Parts: slices.Repeat([]api.Part{{Many: 1, Data: make([]byte, data)}}, 1000)})
}
