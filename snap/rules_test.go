package snap_test

import (
	"fmt"
	"math"
	"reflect"
	"slices"
	"testing"
	"time"

	"orchard/api"
	"orchard/snap"
)

// R1, R2, R3, R6 and THE BOUND of the document, as far as they speak of snap; R4 has its test with Same, and R5 says nothing of snap, since it makes no objects. (That with an error nothing else is answered is asked beside each error, too.)

// callAll makes each of the calls, whatever they answer.
func callAll(a, b api.Snap) {
	snap.Check(a)
	snap.Marshal(a)
	snap.Same(a, b)
	snap.Differ(a, b)
	snap.Clone(a)
	snap.Unmarshal(modelForm(a))
}

// TestAnyStates: R1, numbers far out of their range and texts of any bytes, in each place alone and in all together.
func TestAnyStates(t *testing.T) {
	far := []int64{math.MinInt64, math.MinInt64 + 1, -1, 1 << 62, math.MaxInt64 - 1, math.MaxInt64}
	for _, n := range far {
		all := whole()
		for i, p := range places(&all) {
			c := whole()
			for _, q := range []place{p, places(&c)[i]} {
				switch q.v.Kind() {
				case reflect.Int, reflect.Int64:
					q.v.SetInt(n)
				case reflect.String:
					q.v.SetString("\xff/\x00" + long(int(n&1023)))
				}
			}
			callAll(c, whole())
			callAll(whole(), c)
		}
		callAll(all, whole())
		callAll(all, all)
		wantMayNot(t, fmt.Sprint("all numbers ", n), all)
		wantSame(t, fmt.Sprint("Clone of a state, all of whose numbers are ", n), snap.Clone(all), all)
	}
}

// TestStartsThatWrapRound: R1, numbers whose sum with how many are kept goes past the greatest one.
func TestStartsThatWrapRound(t *testing.T) {
	for site := range sites {
		s := withKept(site, opsOf(site, 3, 9)...)
		s.Starts[site], s.Vector[site] = math.MaxInt64-1, math.MinInt64+1
		wantMayNot(t, "Starts that wrap round", s)
	}
}

// TestErrorsAnswerNothing: R2, and that what is refused is not written to.
func TestErrorsAnswerNothing(t *testing.T) {
	for i, fault := range faults() {
		s := changed(fault)
		b, err := snap.Marshal(s)
		wantErr(t, "Marshal", err, api.ErrSnap)
		wantNone(t, "Marshal", b)
		if !reflect.DeepEqual(s, changed(fault)) {
			t.Error("a state with a fault was written to:", i)
		}
		form := modelForm(s)
		wantUnmarshalErr(t, fmt.Sprint("the fault ", i), form, api.ErrSnap)
		wantBytes(t, "bytes that were refused", form, modelForm(s))
	}
}

// roomy is a whole state, each of whose lists has room behind it, filled with what must stay; all are those lists up to their ends.
func roomy() (s api.Snap, all []reflect.Value) {
	s = whole()
	for _, p := range lists(&s) {
		l := reflect.MakeSlice(p.v.Type(), p.v.Len()+2, p.v.Len()+2)
		reflect.Copy(l, p.v)
		p.v.Set(l.Slice(0, p.v.Len()))
		all = append(all, l)
	}
	return s, all
}

// TestGivenIsNotWritten: R3, up to the lists' capacities.
func TestGivenIsNotWritten(t *testing.T) {
	a, roomA := roomy()
	b, roomB := roomy()
	callAll(a, b)
	c := snap.Clone(a)
	for _, p := range lists(&c) {
		p.v.Set(reflect.AppendSlice(p.v, p.v))
	}
	if !reflect.DeepEqual(a, whole()) || !reflect.DeepEqual(b, whole()) {
		t.Error("a state was written to")
	}
	for _, room := range [][]reflect.Value{roomA, roomB} {
		for i, l := range room {
			for n := l.Len() - 2; n < l.Len(); n++ {
				if !l.Index(n).IsZero() {
					t.Error("the room behind a list was written to:", i)
				}
			}
		}
	}
	form := append(formOf(t, whole()), 7, 7)
	snap.Unmarshal(form[:len(form)-2])
	wantBytes(t, "the bytes that were read", form, append(modelForm(whole()), 7, 7))
}

// TestGivenIsNotKept: R3, what its owner changes behind a call changes no answer.
func TestGivenIsNotKept(t *testing.T) {
	b := formOf(t, whole())
	s, err := snap.Unmarshal(b)
	wantErr(t, "Unmarshal", err, api.OK)
	for i := range b {
		b[i] ^= 255
	}
	wantSame(t, "a state, behind a change of the bytes that it was read of", s, whole())
	given := whole()
	b = formOf(t, given)
	names := snap.Differ(given, api.Snap{})
	c := snap.Clone(given)
	for _, p := range places(&given) {
		p.turn()
	}
	wantBytes(t, "a form, behind a change of the state", b, modelForm(whole()))
	wantSame(t, "a clone, behind a change of the state", c, whole())
	if !slices.Equal(names, fields()) {
		t.Error("Differ, behind a change of the state:", names)
	}
}

// TestAnswersAreNobodysElse: R3, what is answered is changed, and neither other answers nor what was given change.
func TestAnswersAreNobodysElse(t *testing.T) {
	given := whole()
	for range 2 {
		b := formOf(t, given)
		wantBytes(t, "Marshal", b, modelForm(whole()))
		s, err := snap.Unmarshal(b)
		wantErr(t, "Unmarshal", err, api.OK)
		wantSame(t, "Unmarshal", s, whole())
		names := snap.Differ(given, api.Snap{})
		if !slices.Equal(names, fields()) {
			t.Error("Differ:", names)
		}
		c := snap.Clone(given)
		wantSame(t, "Clone", c, whole())
		clear(b[:cap(b)])
		clear(names)
		wantSame(t, "what was read, behind a change of the bytes", s, whole())
		for _, x := range []*api.Snap{&s, &c} {
			for _, p := range places(x) {
				p.turn()
			}
		}
	}
	wantSame(t, "what was given", given, whole())
}

// TestListsOfAnAnswerAreApart: no list of one answer has room in common with another one.
func TestListsOfAnAnswerAreApart(t *testing.T) {
	read := func() api.Snap {
		s, err := snap.Unmarshal(formOf(t, whole()))
		wantErr(t, "Unmarshal", err, api.OK)
		return s
	}
	for _, made := range []func() api.Snap{read, func() api.Snap { return snap.Clone(whole()) }} {
		s := made()
		for _, p := range lists(&s) {
			v := p.v.Slice3(0, p.v.Len(), p.v.Cap())
			for range 3 {
				v = reflect.Append(v, reflect.Zero(v.Type().Elem()))
			}
		}
		wantSame(t, "an answer, behind each of whose lists something was put", s, whole())
		for i := range lists(&s) {
			c := made()
			before := made()
			l, was := lists(&c), lists(&before)
			clearList(l[i].v)
			for j := range min(i, len(l)) {
				if !within(l[j].path, l[i].path) && !reflect.DeepEqual(l[j].v.Interface(), was[j].v.Interface()) {
					t.Error("a change of the list", l[i].path, "is seen in the list", l[j].path)
				}
			}
		}
	}
}

// within tells whether the list inner stands in a member of the list outer.
func within(outer, inner string) bool {
	return len(inner) > len(outer) && inner[:len(outer)] == outer && inner[len(outer)] == '['
}

// TestTheSameAgain: R6, and nothing is kept from call to call.
func TestTheSameAgain(t *testing.T) {
	run := func(between func(s *source)) []string {
		s, other := source(12), source(13)
		var answers []string
		for range 200 {
			x, y := s.state(), s.state()
			s.spoil(&y)
			between(&other)
			b, err := snap.Marshal(y)
			z, readErr := snap.Unmarshal(modelForm(y))
			answers = append(answers, fmt.Sprint(snap.Check(x), snap.Check(y), b, err, z, readErr, snap.Differ(x, y), snap.Same(x, y), snap.Clone(y)))
		}
		return answers
	}
	first := run(func(*source) {})
	second := run(func(s *source) { callAll(s.state(), s.state()) })
	if !slices.Equal(first, second) {
		t.Error("the same calls answer otherwise")
	}
}

// THE BOUND: one that is not near-linear would take many times as long.

const longTime = 20 * time.Second

func wantSoon(t *testing.T, what string, call func()) {
	t.Helper()
	begun := time.Now()
	call()
	if took := time.Since(begun); took > longTime {
		t.Errorf("%s took %v", what, took)
	}
}

// chain are nodes each of which stands under the next one.
func chain(n int) []api.TreeNode {
	l := nodesOf(n)
	for i := range n - 1 {
		l[i].Parent = l[i+1].Node
	}
	return l
}

// full is a state each of whose lists has as many members as it may have.
func full() api.Snap {
	s := api.Snap{Base: chain(members), Log: attrOps(2, members), Rows: rowsOf(sessions), Parts: partsOf(members)}
	for site := range sites {
		keep(&s, site, attrOps(site, members))
	}
	return s
}

func TestFullStatesAreSoonDone(t *testing.T) {
	s, other := full(), full()
	other.Parts[members-1].Many++
	wantSoon(t, "calls with a full state", func() {
		wantLong(t, "a full state", s)
		wantDiffer(t, "full states", s, other, "Parts")
		wantDiffer(t, "a full state and its clone", s, snap.Clone(s))
		got, err := snap.Unmarshal(modelForm(s))
		wantErr(t, "Unmarshal of a full state", err, api.OK)
		wantDiffer(t, "a full state and what was read", s, got)
	})
}

func TestManyMembersAreSoonDone(t *testing.T) {
	const many = 1 << 18
	falling := nodesOf(members)
	slices.Reverse(falling)
	ring := chain(members)
	ring[members-1].Parent = ring[0].Node
	for i, s := range []api.Snap{
		{Base: nodesOf(many)}, {Base: falling}, {Base: []api.TreeNode{node(root, 0, "", attrsOf(many)...)}}, {Base: ring},
		withLog(0, attrOps(1, many)...), {Rows: rowsOf(many)}, {Parts: partsOf(many)}, withKept(1, attrOps(1, many)...),
		{Parts: []api.Part{{Many: 1, Data: make([]byte, 1<<24)}}}, withLog(0, anAttr(1, 1, root, long(1<<24), "")), {Base: []api.TreeNode{node(3, root, long(1<<24))}},
	} {
		wantSoon(t, fmt.Sprint("a state with many members: ", i), func() {
			if err := snap.Check(s); err != api.ErrSnap && i != 2 {
				t.Error("Check: error", err)
			}
			snap.Marshal(s)
			wantDiffer(t, "a state and its clone", s, snap.Clone(s))
			snap.Unmarshal(modelForm(s))
		})
	}
}

func TestLongBytesAreSoonRead(t *testing.T) {
	for _, c := range []byte{0, 1, 2, 127, 128, 255} {
		b := slices.Repeat([]byte{c}, 1<<24)
		wantSoon(t, "long bytes", func() {
			if _, err := snap.Unmarshal(b); err == api.OK {
				t.Error("read: bytes of", c)
			}
		})
	}
}
