package epoch_test

import (
	"fmt"
	"math"
	"slices"
	"testing"

	"orchard/api"
	"orchard/epoch"
)

// P17.4: New, Apply, Current, At, All and Clone; Bytes and Load stand in bytes_test.go.

// epochs are those of a life, by the model.
func (l life) epochs(t *testing.T) []api.Epoch {
	t.Helper()
	e, err := modelStart(l.members)
	wantErr(t, "the first epoch", err, api.OK)
	out := []api.Epoch{e}
	for _, x := range l.entries {
		e, err = modelApply(e, x)
		wantErr(t, "the next epoch", err, api.OK)
		out = append(out, e)
	}
	return out
}

func TestMachines(t *testing.T) {
	for _, l := range lives() {
		want := l.epochs(t)
		m := newOne(t, l.members...)
		wantMachine(t, "New", m, want[:1])
		for i, x := range l.entries {
			if i%2 == 1 {
				x = filled(x)
			}
			wantErr(t, "Apply", m.Apply(x), api.OK)
			wantMachine(t, "Apply", m, want[:i+2])
		}
	}
}

// TestOneMachine: with all its numbers written out.
func TestOneMachine(t *testing.T) {
	m := newOne(t, 1, 0)
	for _, x := range []api.Entry{join(2, 0), leave(1), sealed(1, 40), join(3, 2)} {
		wantErr(t, "Apply", m.Apply(x), api.OK)
	}
	wantMachine(t, "a machine", m, []api.Epoch{
		{Number: 0, States: [8]int{1, 1}, Sponsor: [8]int{-1, -1, -1, -1, -1, -1, -1, -1}},
		{Number: 1, States: [8]int{1, 1, 1}, Sponsor: [8]int{-1, -1, 0, -1, -1, -1, -1, -1}},
		{Number: 2, States: [8]int{1, 2, 1}, Sponsor: [8]int{-1, -1, 0, -1, -1, -1, -1, -1}},
		{Number: 3, States: [8]int{1, 3, 1}, Seals: api.Vector{0, 40}, Sponsor: [8]int{-1, -1, 0, -1, -1, -1, -1, -1}},
		{Number: 4, States: [8]int{1, 3, 1, 1}, Seals: api.Vector{0, 40}, Sponsor: [8]int{-1, -1, 0, 2, -1, -1, -1, -1}},
	})
}

// TestApplyOfNothing: an EnNone, with anything in its other fields.
func TestApplyOfNothing(t *testing.T) {
	for _, l := range lives() {
		m := l.made(t)
		want := look(t, m)
		for _, x := range []api.Entry{{}, filled(api.Entry{}), {Site: 99, Sponsor: -9, Length: -1}, {Site: 1, Length: 5}} {
			wantErr(t, "Apply of an EnNone", m.Apply(x), api.OK)
			wantMachine(t, "Apply of an EnNone", m, want)
		}
	}
}

// wantNoChange: it answers an error, and changes nothing.
func wantNoChange(t *testing.T, m *epoch.Machine, x api.Entry, want api.Errno) {
	t.Helper()
	before := look(t, m)
	for _, y := range []api.Entry{x, filled(x)} {
		wantErr(t, told(m.Current(), x), m.Apply(y), want)
		wantMachine(t, told(m.Current(), x), m, before)
	}
}

func TestApplyAnswersErrors(t *testing.T) {
	m := newOne(t, 0, 1, 4)
	for _, x := range []api.Entry{join(2, 0), leave(1), sealed(1, 40), leave(4)} {
		wantErr(t, "Apply", m.Apply(x), api.OK)
	}
	for _, kind := range kinds() {
		if kind != enNone && (kind < enJoin || kind > enSealed) {
			wantNoChange(t, m, api.Entry{Kind: kind, Site: 2}, errArg)
		}
	}
	for _, site := range []int{math.MinInt, -1, 8, 9, math.MaxInt} {
		wantNoChange(t, m, join(site, 0), errArg)
		wantNoChange(t, m, leave(site), errArg)
		wantNoChange(t, m, sealed(site, 1), errArg)
	}
	for _, site := range []int{0, 1, 2, 4} {
		wantNoChange(t, m, join(site, -1), errState)
	}
	wantNoChange(t, m, join(3, -1), errArg)
	wantNoChange(t, m, join(3, 8), errArg)
	for _, sponsor := range []int{1, 3, 4, 5} {
		wantNoChange(t, m, join(3, sponsor), errState)
	}
	for _, site := range []int{1, 3, 4} {
		wantNoChange(t, m, leave(site), errState)
	}
	for _, site := range []int{0, 1, 2, 3} {
		wantNoChange(t, m, sealed(site, -1), errState)
	}
	wantNoChange(t, m, sealed(4, -1), errArg)
	wantNoChange(t, m, sealed(4, latest+1), errArg)
	wantErr(t, "Apply", m.Apply(leave(2)), api.OK)
	wantNoChange(t, m, leave(0), errLast)
}

// TestApplyOfEachEntry: each one that there may be, to each epoch of each machine.
func TestApplyOfEachEntry(t *testing.T) {
	for _, l := range lives() {
		m := newOne(t, l.members...)
		for _, step := range append(slices.Clone(l.entries), api.Entry{}) {
			e := m.Current()
			for x := range modelEntries(e) {
				next, err := modelApply(e, x)
				c := m.Clone()
				wantErr(t, told(e, x), c.Apply(x), err)
				if err != api.OK {
					next = e
				}
				wantEpoch(t, told(e, x), c.Current(), next)
			}
			wantErr(t, "Apply", m.Apply(step), api.OK)
		}
	}
}

// TestAtBehindTheLastOne: what is none yet is there when its entry came; look asks At of all others.
func TestAtBehindTheLastOne(t *testing.T) {
	l := longest()
	m := newOne(t, l.members...)
	for i, x := range l.entries {
		number := int64(i) + 1
		if e, ok := m.At(number); ok || e != (api.Epoch{}) {
			t.Errorf("At(%d) is %v, %v ahead of its entry", number, e, ok)
		}
		wantErr(t, "Apply", m.Apply(x), api.OK)
		if e, ok := m.At(number); !ok || e != m.Current() || e.Number != number {
			t.Errorf("At(%d) is %v, %v behind its entry", number, e, ok)
		}
	}
}

// TestAllStopped: an iterator that is stopped at each place, and gone through anew.
func TestAllStopped(t *testing.T) {
	for _, l := range lives() {
		m := l.made(t)
		want := look(t, m)
		all := m.All()
		for stop := 1; stop <= len(want); stop++ {
			var got []api.Epoch
			for e := range all {
				got = append(got, e)
				if len(got) == stop {
					break
				}
			}
			wantEpochs(t, fmt.Sprintf("All, stopped behind %d", stop), got, want[:stop])
			wantEpochs(t, "All, gone through anew", slices.Collect(all), want)
		}
	}
}

// TestAllWithinAll: two that are gone through at once.
func TestAllWithinAll(t *testing.T) {
	m := longest().made(t)
	want := look(t, m)
	all, at := m.All(), 0
	for e := range all {
		wantEpoch(t, "the outer one", e, want[at])
		wantEpochs(t, "the inner one", slices.Collect(all), want)
		at++
	}
}

// other is an entry that makes an epoch of what is current, if there is one.
func other(t *testing.T, m *epoch.Machine, s *source) bool {
	t.Helper()
	var l []api.Entry
	for x := range modelEntries(m.Current()) {
		if _, err := modelApply(m.Current(), x); err == api.OK {
			l = append(l, x)
		}
	}
	if len(l) == 0 {
		return false
	}
	wantErr(t, "Apply", m.Apply(one(s, l...)), api.OK)
	return true
}

func TestClonesGoTheirOwnWay(t *testing.T) {
	s := source(3)
	for _, l := range lives() {
		for range 20 {
			m := l.made(t)
			before := look(t, m)
			c := m.Clone()
			wantMachine(t, "Clone", c, before)
			if c == m {
				t.Fatal("Clone is the machine itself")
			}
			// First one of both goes on, and then the other one.
			ahead, behind := m, c
			if s.below(2) == 0 {
				ahead, behind = c, m
			}
			for other(t, ahead, &s) && s.below(6) != 0 {
				wantMachine(t, "the one goes on", behind, before)
			}
			gone := look(t, ahead)
			for other(t, behind, &s) && s.below(6) != 0 {
				wantMachine(t, "the other one goes on", ahead, gone)
			}
			wantEpochs(t, "all of before", look(t, behind)[:len(before)], before)
		}
	}
}
