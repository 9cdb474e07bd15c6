package record_test

import (
	"math"
	"slices"
	"strconv"

	"orchard/api"
)

// edge is a number that a leaf is given (of a text or a list: its length), and whether it may be.
type edge struct {
	n  int64
	ok bool
}

// between are the edges of what may be from least to most.
func between(least, most int64) []edge {
	return []edge{
		{math.MinInt64, false}, {least - 1, false}, {least, true}, {most, true}, {most + 1, false}, {math.MaxInt64, false},
	}
}

func lengths(most int64) []edge { return []edge{{0, true}, {1, true}, {most, true}, {most + 1, false}} }

// leaf is a number, a text or a list within a T, with its edges.
type leaf[T any] struct {
	name  string
	edges []edge
	set   func(v *T, n int64)
}

// lift makes leaves of a whole out of those of a part of it, which stands at at.
func lift[T, P any](name string, at func(v *T) *P, l []leaf[P]) []leaf[T] {
	var out []leaf[T]
	for _, x := range l {
		out = append(out, leaf[T]{name + "." + x.name, x.edges, func(v *T, n int64) { x.set(at(v), n) }})
	}
	return out
}

func countLeaf[T any](name string, at func(v *T) *int64) leaf[T] {
	return leaf[T]{name, between(0, api.MaxTime), func(v *T, n int64) { *at(v) = n }}
}

func above0Leaf[T any](name string, at func(v *T) *int64) leaf[T] {
	return leaf[T]{name, between(1, api.MaxTime), func(v *T, n int64) { *at(v) = n }}
}

func nodeLeaf[T any](name string, at func(v *T) *int64) leaf[T] {
	return leaf[T]{name, between(0, api.MaxNode), func(v *T, n int64) { *at(v) = n }}
}

func intLeaf[T any](name string, least, most int64, at func(v *T) *int) leaf[T] {
	return leaf[T]{name, between(least, most), func(v *T, n int64) { *at(v) = int(n) }}
}

func siteLeaf[T any](name string, at func(v *T) *int) leaf[T] { return intLeaf(name, 0, 7, at) }

func textLeaf[T any](name string, at func(v *T) *string) leaf[T] {
	return leaf[T]{name, lengths(api.MaxText), func(v *T, n int64) { *at(v) = text(int(n)) }}
}

func opLeaves() []leaf[api.Op] {
	return []leaf[api.Op]{
		countLeaf("Time", func(v *api.Op) *int64 { return &v.Stamp.Time }),
		siteLeaf("Site", func(v *api.Op) *int { return &v.Stamp.Site }),
		intLeaf("Kind", 1, 3, func(v *api.Op) *int { return &v.Kind }),
		nodeLeaf("Node", func(v *api.Op) *int64 { return &v.Node }),
		nodeLeaf("Parent", func(v *api.Op) *int64 { return &v.Parent }),
		textLeaf("Name", func(v *api.Op) *string { return &v.Name }),
		textLeaf("Key", func(v *api.Op) *string { return &v.Key }),
		textLeaf("Value", func(v *api.Op) *string { return &v.Value }),
	}
}

func vectorLeaves() []leaf[api.Vector] {
	var l []leaf[api.Vector]
	for i := range api.MaxSites {
		l = append(l, countLeaf(strconv.Itoa(i), func(v *api.Vector) *int64 { return &v[i] }))
	}
	return l
}

func epochLeaves() []leaf[api.Epoch] {
	l := []leaf[api.Epoch]{countLeaf("Number", func(v *api.Epoch) *int64 { return &v.Number })}
	for i := range api.MaxSites {
		l = append(l,
			intLeaf("States"+strconv.Itoa(i), 0, 3, func(v *api.Epoch) *int { return &v.States[i] }),
			intLeaf("Sponsor"+strconv.Itoa(i), -1, 7, func(v *api.Epoch) *int { return &v.Sponsor[i] }),
		)
	}
	return append(l, lift("Seals", func(v *api.Epoch) *api.Vector { return &v.Seals }, vectorLeaves())...)
}

// partLeaves go by samplePart, which has Index 2 and Many 5.
func partLeaves() []leaf[api.Part] {
	return []leaf[api.Part]{
		countLeaf("Snap", func(v *api.Part) *int64 { return &v.Snap }),
		{"Index", []edge{{math.MinInt64, false}, {-1, false}, {0, true}, {1, true}, {4, true}, {5, false}, {6, false}}, func(v *api.Part, n int64) { v.Index = int(n) }},
		{"Many", []edge{{math.MinInt64, false}, {-1, false}, {0, false}, {1, false}, {2, false}, {3, true}, {api.MaxList, true}, {api.MaxList + 1, false}}, func(v *api.Part, n int64) { v.Many = int(n) }},
		{"Data", lengths(api.MaxData), func(v *api.Part, n int64) { v.Data = make([]byte, n) }},
	}
}

func ballotLeaves() []leaf[api.Ballot] {
	return []leaf[api.Ballot]{
		countLeaf("Round", func(v *api.Ballot) *int64 { return &v.Round }),
		intLeaf("Replica", 0, 4, func(v *api.Ballot) *int { return &v.Replica }),
	}
}

func addrLeaves() []leaf[api.Addr] {
	return []leaf[api.Addr]{
		intLeaf("Group", 0, 8, func(v *api.Addr) *int { return &v.Group }),
		intLeaf("Replica", 0, 4, func(v *api.Addr) *int { return &v.Replica }),
	}
}

func opsEdges() []edge {
	return []edge{{0, false}, {1, true}, {2, true}, {api.MaxList, true}, {api.MaxList + 1, false}}
}

// named is a field of a T, with its leaves, and the Kinds for which it is named.
type named[T any] struct {
	name   string
	kinds  []int
	leaves []leaf[T]
}

func entryFields() []named[api.Entry] {
	type E = api.Entry
	return []named[E]{
		{"Session", []int{api.EnLocal}, []leaf[E]{above0Leaf("Session", func(e *E) *int64 { return &e.Session })}},
		{"Request", []int{api.EnLocal}, []leaf[E]{above0Leaf("Request", func(e *E) *int64 { return &e.Request })}},
		{"Op", []int{api.EnLocal}, lift("Op", func(e *E) *api.Op { return &e.Op }, opLeaves())},
		{"Origin", []int{api.EnRemote}, []leaf[E]{siteLeaf("Origin", func(e *E) *int { return &e.Origin })}},
		{"Seq", []int{api.EnRemote, api.EnKnown}, []leaf[E]{countLeaf("Seq", func(e *E) *int64 { return &e.Seq })}},
		{"Ops", []int{api.EnRemote}, []leaf[E]{{"Ops", opsEdges(), func(e *E, n int64) { e.Ops = sampleOps(int(n)) }}}},
		{"Epoch", []int{api.EnEpoch}, lift("Epoch", func(e *E) *api.Epoch { return &e.Epoch }, epochLeaves())},
		{"From", []int{api.EnKnown}, []leaf[E]{siteLeaf("From", func(e *E) *int { return &e.From })}},
		{"Vector", []int{api.EnKnown}, lift("Vector", func(e *E) *api.Vector { return &e.Vector }, vectorLeaves())},
		{"Clock", []int{api.EnKnown}, []leaf[E]{countLeaf("Clock", func(e *E) *int64 { return &e.Clock })}},
		{"Part", []int{api.EnPart}, lift("Part", func(e *E) *api.Part { return &e.Part }, partLeaves())},
		{"Site", []int{api.EnJoin, api.EnLeave, api.EnSealed}, []leaf[E]{siteLeaf("Site", func(e *E) *int { return &e.Site })}},
		{"Sponsor", []int{api.EnJoin}, []leaf[E]{siteLeaf("Sponsor", func(e *E) *int { return &e.Sponsor })}},
		{"Length", []int{api.EnSealed}, []leaf[E]{countLeaf("Length", func(e *E) *int64 { return &e.Length })}},
	}
}

// msgFields are those of messages; how long a List may be is a test of its own, since it hangs on the Kind.
func msgFields() []named[api.Msg] {
	type M = api.Msg
	all := make([]int, api.MsState+1)
	for kind := range all {
		all[kind] = kind
	}
	slot := []int{api.MsPrepare, api.MsPromise, api.MsAccepted, api.MsBeat, api.MsAsk, api.MsPush, api.MsState}
	ballot := []int{api.MsPrepare, api.MsPromise, api.MsAccept, api.MsAccepted, api.MsRefuse, api.MsBeat}
	number := []int{api.MsKnown, api.MsPush, api.MsWant}
	return []named[M]{
		{"From", all, lift("From", func(m *M) *api.Addr { return &m.From }, addrLeaves())},
		{"To", all, lift("To", func(m *M) *api.Addr { return &m.To }, addrLeaves())},
		{"Ballot", ballot, lift("Ballot", func(m *M) *api.Ballot { return &m.Ballot }, ballotLeaves())},
		{"Slot", slot, []leaf[M]{countLeaf("Slot", func(m *M) *int64 { return &m.Slot })}},
		{"Number", number, []leaf[M]{countLeaf("Number", func(m *M) *int64 { return &m.Number })}},
		{"Vector", []int{api.MsKnown, api.MsWant}, lift("Vector", func(m *M) *api.Vector { return &m.Vector }, vectorLeaves())},
		{"Clock", []int{api.MsKnown}, []leaf[M]{countLeaf("Clock", func(m *M) *int64 { return &m.Clock })}},
		{"Origin", []int{api.MsPush}, []leaf[M]{siteLeaf("Origin", func(m *M) *int { return &m.Origin })}},
		{"Ops", []int{api.MsPush}, []leaf[M]{{"Ops", opsEdges(), func(m *M, n int64) { m.Ops = sampleOps(int(n)) }}}},
		{"Epoch", []int{api.MsEpoch}, lift("Epoch", func(m *M) *api.Epoch { return &m.Epoch }, epochLeaves())},
		{"Part", []int{api.MsPart, api.MsState}, lift("Part", func(m *M) *api.Part { return &m.Part }, partLeaves())},
	}
}

// edgeCase is a value with one leaf at one edge.
type edgeCase[T any] struct {
	name  string
	v     T
	ok    bool
	named bool // the leaf's field is named for the Kind: it stands in the form
}

// edgeCases are all edges of all leaves of a value of that Kind that may be; what is not named must be zero.
func edgeCases[T any](kind int, fields []named[T], fresh func() T) []edgeCase[T] {
	var out []edgeCase[T]
	for _, f := range fields {
		isNamed := slices.Contains(f.kinds, kind)
		for _, x := range f.leaves {
			for _, e := range x.edges {
				name := "Kind " + strconv.Itoa(kind) + ", " + x.name + " at " + strconv.FormatInt(e.n, 10)
				c := edgeCase[T]{name, fresh(), e.ok, isNamed}
				if !isNamed {
					c.ok = e.n == 0
				}
				x.set(&c.v, e.n)
				out = append(out, c)
			}
		}
	}
	return out
}

func entryCases() []edgeCase[api.Entry] {
	var out []edgeCase[api.Entry]
	for kind := range sampleEntries() {
		out = append(out, edgeCases(kind, entryFields(), func() api.Entry { return sampleEntries()[kind] })...)
	}
	return append(out, edgeCases(api.EnRemote, opsFields(), func() api.Entry { return sampleEntries()[api.EnRemote] })...)
}

// opsFields are the operations of an EnRemote, the first one and the last one.
func opsFields() []named[api.Entry] {
	first := lift("Ops[0]", func(e *api.Entry) *api.Op { return &e.Ops[0] }, opLeaves())
	last := lift("Ops[1]", func(e *api.Entry) *api.Op { return &e.Ops[1] }, opLeaves())
	return []named[api.Entry]{{"Ops", []int{api.EnRemote}, append(first, last...)}}
}

func msgCases() []edgeCase[api.Msg] {
	var out []edgeCase[api.Msg]
	for _, m := range goodMsgs() {
		out = append(out, edgeCases(m.Kind, msgFields(), func() api.Msg { return sampleMsgs()[m.Kind] })...)
	}
	for _, kind := range []int{api.MsPromise, api.MsAccept, api.MsChosen} {
		out = append(out, edgeCases(kind, listFields(kind), func() api.Msg { return sampleMsgs()[kind] })...)
	}
	return append(out, edgeCases(api.MsPush, pushFields(), func() api.Msg { return sampleMsgs()[api.MsPush] })...)
}

// listFields are the slot and the ballot of the last one of a List.
func listFields(kind int) []named[api.Msg] {
	last := func(m *api.Msg) *api.Slotted { return &m.List[len(m.List)-1] }
	slot := countLeaf("List.Slot", func(m *api.Msg) *int64 { return &last(m).Slot })
	ballot := lift("List.Ballot", func(m *api.Msg) *api.Ballot { return &last(m).Ballot }, ballotLeaves())
	return []named[api.Msg]{{"List", []int{kind}, append(ballot, slot)}}
}

// pushFields are the operations of a MsPush, the first one and the last one.
func pushFields() []named[api.Msg] {
	first := lift("Ops[0]", func(m *api.Msg) *api.Op { return &m.Ops[0] }, opLeaves())
	last := lift("Ops[1]", func(m *api.Msg) *api.Op { return &m.Ops[1] }, opLeaves())
	return []named[api.Msg]{{"Ops", []int{api.MsPush}, append(first, last...)}}
}

// carried are messages that carry an entry, in each way that there is.
func carried(e api.Entry) []api.Msg {
	forward, promise, accept, chosen := sampleMsgs()[api.MsForward], sampleMsgs()[api.MsPromise], sampleMsgs()[api.MsAccept], sampleMsgs()[api.MsChosen]
	forward.Entry = e
	promise.List[4].Entry = e
	accept.List[0].Entry = e
	chosen.List[8].Entry = e
	return []api.Msg{forward, promise, accept, chosen}
}
