package exchange_test

import (
	"math"
	"strings"
	"testing"

	"orchard/api"
	"orchard/record"
)

// P16.4.

// vector has another number of each site.
func vector(n int64) api.Vector {
	return api.Vector{n, n + 1, n + 2, n + 3, n + 4, n + 5, n + 6, n + 7}
}

func epochOf(n int64) api.Epoch {
	e := api.Epoch{Number: n, States: [sites]int{1, 0, 2, 3, 1, 1, 1, 1}, Seals: vector(n)}
	for site := range e.Sponsor {
		e.Sponsor[site] = site - 1
	}
	return e
}

func partOf(data string) api.Part {
	return api.Part{Snap: 4, Index: 2, Many: 3, Data: []byte(data)}
}

// turned is what a message becomes: the message, the entry.
type turned struct {
	m api.Msg
	e api.Entry
}

// sentWith are messages of a group that become entries, one of each Kind, with numbers from n on and so many operations and bytes.
func sentWith(from api.Addr, n int64, many int, data string) []turned {
	origin := int(n % sites)
	ops := opsFrom(origin, 9, many)
	l := []turned{
		{api.Msg{Kind: 10, Number: n, Vector: vector(n), Clock: n + 6}, api.Entry{Kind: 4, Seq: n, From: from.Group, Vector: vector(n), Clock: n + 6}},
		{api.Msg{Kind: 11, Number: n + 5, Origin: origin, Slot: n + 3, Ops: ops}, api.Entry{Kind: 2, Origin: origin, Seq: n + 3, Ops: ops}},
		{api.Msg{Kind: 12, Epoch: epochOf(n)}, api.Entry{Kind: 3, Epoch: epochOf(n)}},
		{api.Msg{Kind: 13, Part: partOf(data)}, api.Entry{Kind: 5, Part: partOf(data)}},
	}
	for i := range l {
		l[i].m.From, l[i].m.To = from, at(6, 4)
	}
	return l
}

func sent(from api.Addr) []turned {
	var l []turned
	for _, n := range []int64{0, 1, 9, latest - 7} {
		l = append(l, sentWith(from, n, 1, "")...)
	}
	for _, many := range []int{15, 16, 17} {
		l = append(l, sentWith(from, 3, many, "data")...)
	}
	return append(l, sentWith(from, 4, 4096, strings.Repeat("d", 1<<14))...)
}

func TestEntryOfEachSite(t *testing.T) {
	for group := range sites {
		for replica := range 5 {
			for _, x := range sent(at(group, replica)) {
				wantEntry(t, "of a site", x.m, x.e)
			}
		}
	}
}

// TestEntryOfTheConfiguration: it tells epochs and parts; what sites tell of themselves is none of its.
func TestEntryOfTheConfiguration(t *testing.T) {
	for _, x := range sent(at(config, 3)) {
		if x.m.Kind == 12 || x.m.Kind == 13 {
			wantEntry(t, "of the configuration", x.m, x.e)
		} else {
			wantNoEntry(t, "of the configuration", x.m)
		}
	}
}

// TestEntryMayBe: what is answered may stand in a log.
func TestEntryMayBe(t *testing.T) {
	for _, x := range sent(at(7, 4)) {
		if err := record.CheckEntry(x.e); err != api.OK {
			t.Errorf("an entry of Kind %d may not be: %d", x.e.Kind, err)
		}
		if err := record.CheckMsg(x.m); err != api.OK {
			t.Errorf("a message of Kind %d may not be: %d", x.m.Kind, err)
		}
	}
}

// others are messages of all other Kinds, each of which may be.
func others() []api.Msg {
	l := []api.Msg{
		{Kind: api.MsPrepare}, {Kind: api.MsPromise}, {Kind: api.MsAccepted}, {Kind: api.MsRefuse}, {Kind: api.MsBeat}, {Kind: api.MsAsk},
		{Kind: api.MsAccept, List: make([]api.Slotted, 1)}, {Kind: api.MsChosen, List: make([]api.Slotted, 2)},
		{Kind: api.MsForward, Entry: api.Entry{Kind: api.EnLeave, Site: 3}},
		{Kind: api.MsForward, Entry: api.Entry{Kind: api.EnRemote, Origin: 3, Ops: opsFrom(3, 4, 2)}},
		{Kind: api.MsWant, Number: 3, Vector: vector(1)}, {Kind: api.MsState, Part: partOf("d")},
	}
	for i := range l {
		l[i].From, l[i].To = at(2, 1), at(6, 4)
	}
	return l
}

func TestEntryOfOtherKinds(t *testing.T) {
	seen := map[int]bool{10: true, 11: true, 12: true, 13: true}
	for _, m := range others() {
		if err := record.CheckMsg(m); err != api.OK {
			t.Errorf("a message of Kind %d may not be: %d", m.Kind, err)
		}
		wantNoEntry(t, "of another kind", m)
		seen[m.Kind] = true
	}
	if len(seen) != 15 {
		t.Error("only so many Kinds are asked:", len(seen))
	}
	for _, x := range sent(at(2, 1)) {
		for _, kind := range []int{math.MinInt, -1, 0, 16, 17, math.MaxInt} {
			x.m.Kind = kind
			wantNoEntry(t, "of no kind", x.m)
		}
	}
	wantNoEntry(t, "the zero message", api.Msg{})
}

// TestEntryOfWhatRecordRefuses: each field of a message that may not be so.
func TestEntryOfWhatRecordRefuses(t *testing.T) {
	changes := []func(m *api.Msg){
		func(m *api.Msg) { m.From.Replica = 5 },
		func(m *api.Msg) { m.From.Group = -1 },
		func(m *api.Msg) { m.From.Group = 9 },
		func(m *api.Msg) { m.To.Group = 9 },
		func(m *api.Msg) { m.To.Replica = -1 },
		func(m *api.Msg) { m.Ballot.Round = 1 },
		func(m *api.Msg) { m.Slot = -1 },
		func(m *api.Msg) { m.Slot = latest + 1 },
		func(m *api.Msg) { m.List = make([]api.Slotted, 1) },
		func(m *api.Msg) { m.Entry.Site = 1 },
		func(m *api.Msg) { m.Number = -1 },
		func(m *api.Msg) { m.Number = latest + 1 },
		func(m *api.Msg) { m.Vector[7] = -1 },
		func(m *api.Msg) { m.Vector[0] = latest + 1 },
		func(m *api.Msg) { m.Clock = -1 },
		func(m *api.Msg) { m.Clock = latest + 1 },
		func(m *api.Msg) { m.Origin = -1 },
		func(m *api.Msg) { m.Origin = 8 },
		func(m *api.Msg) { m.Epoch.Number = -1 },
		func(m *api.Msg) { m.Epoch.States[3] = 4 },
		func(m *api.Msg) { m.Part.Snap = -1 },
		func(m *api.Msg) { m.Part.Index = 5 },
		func(m *api.Msg) { m.Part.Data = make([]byte, 1<<14+1) },
		func(m *api.Msg) { m.Ops = append(opsFrom(2, 3, 2), api.Op{}) },
		func(m *api.Msg) { m.Ops = opsFrom(2, 3, 4097) },
	}
	for _, x := range sent(at(2, 1)) {
		for i, change := range changes {
			m := record.CloneMsg(x.m)
			change(&m)
			if record.CheckMsg(m) == api.OK {
				t.Errorf("the change %d of Kind %d is not refused", i, m.Kind)
			}
			wantNoEntry(t, "refused", m)
		}
		if x.m.Kind == 11 {
			x.m.Ops = nil
			wantNoEntry(t, "no operations", x.m)
			x.m.Ops = []api.Op{}
			wantNoEntry(t, "no operations", x.m)
		}
	}
}

// TestEntryOfWhatStampRefuses: record alone is asked; what does not count is told by Take.
func TestEntryOfWhatStampRefuses(t *testing.T) {
	for _, bad := range noOps(9, 2) {
		m := api.Msg{Kind: 11, From: at(1, 0), To: at(0, 0), Origin: 3, Slot: 4, Ops: []api.Op{op(8, 2), bad}}
		if record.CheckMsg(m) == api.OK {
			wantEntry(t, "refused by stamp", m, api.Entry{Kind: 2, Origin: 3, Seq: 4, Ops: m.Ops})
		} else {
			wantNoEntry(t, "refused by both", m)
		}
	}
}
