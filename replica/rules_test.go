package replica_test

import (
	"fmt"
	"math"
	"reflect"
	"strings"
	"testing"
	"time"

	"orchard/api"
	"orchard/record"
	"orchard/replica"
	"orchard/store"
)

// R2: errors' order, and that an error changes nothing, stands in the tests of the calls; here, what no call made, what is shared, the same again, and THE BOUND.

// R5: a replica that no call made, also one to which somebody gave a store.
func TestReplicasThatNoCallMade(t *testing.T) {
	given := &replica.Replica{}
	given.Store = opened(t)
	for _, r := range []*replica.Replica{nil, {}, given} {
		wantMade := func(what string, l []api.Msg, err api.Errno) {
			t.Helper()
			if l != nil || err != api.ErrMade {
				t.Errorf("%s: %v, error %d", what, l, err)
			}
		}
		for range 20 {
			l, err := r.Tick()
			wantMade("Tick", l, err)
		}
		for _, e := range append(noEntries(), named(1), tooLong()) {
			l, err := r.Propose(e)
			wantMade("Propose", l, err)
		}
		for _, m := range append(noMessages(), api.Msg{}, fresh(t, 0, 3).in(1, beat(ballot(1, 1), 0)), fresh(t, 0, 3).in(1, chosen(plain(0, named(1))))) {
			l, err := r.Step(m)
			wantMade("Step", l, err)
		}
		for _, slot := range []int64{math.MinInt64, -1, 0, 1, latest, math.MaxInt64} {
			wantErr(t, "Checkpoint", r.Checkpoint(slot, make([]byte, longestState+1)), api.ErrMade)
			if e, is := r.Chosen(slot); is || !reflect.ValueOf(e).IsZero() {
				t.Errorf("Chosen(%d): %v, %v", slot, e, is)
			}
		}
		if slot, data, is := r.Restore(); slot != 0 || data != nil || is {
			t.Error("Restore", slot, data, is)
		}
		if slot, e, is := r.Next(); slot != 0 || !reflect.ValueOf(e).IsZero() || is {
			t.Error("Next", slot, e, is)
		}
		if b, is := r.Leader(); b != (api.Ballot{}) || is {
			t.Error("Leader", b, is)
		}
		if r.Role() != 0 || r.Told() != 0 || r.First() != 0 || r.Upto() != 0 || r.Broken() {
			t.Error("it answers", r.Role(), r.Told(), r.First(), r.Upto(), r.Broken())
		}
	}
	if given.Store.Upto() != 0 || given.Store.Promised() != (api.Ballot{}) {
		t.Error("the store has changed")
	}
}

// R3: what is handed in or answered, and then written to.

func spoilEntry(e *api.Entry) {
	ops := e.Ops[:cap(e.Ops)]
	for i := range ops {
		ops[i] = api.Op{Name: "spoilt", Node: -1}
	}
	data := e.Part.Data[:cap(e.Part.Data)]
	for i := range data {
		data[i] ^= 255
	}
}

// spoil writes to all that a message points to.
func spoil(l ...api.Msg) {
	for i := range l {
		m := &l[i]
		spoilEntry(&m.Entry)
		list := m.List[:cap(m.List)]
		for k := range list {
			spoilEntry(&list[k].Entry)
			list[k] = api.Slotted{Slot: -1}
		}
		data := m.Part.Data[:cap(m.Part.Data)]
		for k := range data {
			data[k] ^= 255
		}
		m.Slot = -1
	}
}

// talk is a row of calls that bring lists, entries and bytes in and out by each Kind; after is told each message that was handed in, behind its call, and all that were answered.
func talk(t *testing.T, after func(handed, answered []api.Msg)) string {
	t.Helper()
	o := laid(t, 0, 3, func(s *store.Store) {
		s.Install(2, []byte(strings.Repeat("checkpoint", 3000)))
		s.Accept(ballot(1, 1), plain(2, sample(2)), plain(3, sample(5)))
	})
	s := ""
	step := func(from int, m api.Msg) {
		t.Helper()
		m = o.in(from, m)
		l, err := o.Step(m)
		s += fmt.Sprintln("step", err, tellWhole(l), o.face())
		after([]api.Msg{m}, l)
	}
	propose := func(e api.Entry) {
		t.Helper()
		l, err := o.Propose(e)
		s += fmt.Sprintln("propose", err, tellWhole(l), o.face())
		after([]api.Msg{{Entry: e}}, l)
	}
	tick := func() {
		t.Helper()
		l, err := o.Tick()
		s += fmt.Sprintln("tick", err, tellWhole(l), o.face())
		after(nil, l)
	}
	next := func() {
		t.Helper()
		slot, e, is := o.Next()
		s += fmt.Sprintln("next", slot, e, is)
		after(nil, []api.Msg{{Entry: e}})
	}
	restore := func() {
		t.Helper()
		slot, data, is := o.Restore()
		s += fmt.Sprintln("restore", slot, string(data), is)
		after(nil, []api.Msg{{Part: api.Part{Data: data}}})
	}
	tellChosen := func(slot int64) {
		t.Helper()
		e, is := o.Chosen(slot)
		s += fmt.Sprintln("chosen", e, is)
		after(nil, []api.Msg{{Entry: e}})
	}
	restore()
	step(1, ask(0))
	step(1, prepare(ballot(2, 1), 0))
	step(1, prepare(ballot(2, 1), 2))
	step(1, prepare(ballot(2, 1), 2))
	step(1, beat(ballot(2, 1), 2))
	propose(sample(2))
	propose(sample(5))
	for range 4 {
		tick()
	}
	b := ballot(3, 0)
	step(2, promise(b, 2, with(3, ballot(1, 2), sample(2)), with(5, ballot(2, 1), sample(5)), with(6, ballot(2, 1), sample(2))))
	tick()
	for i := 1; i < 6; i++ {
		propose(sample(i))
		step(2, forward(sample(i)))
	}
	tick()
	for slot := int64(2); slot < 9; slot++ {
		step(2, accepted(b, slot))
		next()
		tellChosen(slot)
		tellChosen(slot)
	}
	step(1, ask(3))
	step(1, ask(3))
	step(1, chosen(plain(9, sample(2)), plain(11, sample(5))))
	step(1, prepare(ballot(7, 1), 3))
	step(1, accept(ballot(7, 1), 12, sample(2)))
	step(1, accept(ballot(7, 1), 13, sample(5)))
	step(2, prepare(ballot(7, 2), 12))
	step(1, state(20, 1, 2, "second"))
	step(1, state(20, 0, 2, "first"))
	restore()
	data := []byte("mine and more")
	step(1, chosen(plain(20, sample(5)), plain(21, sample(2))))
	next()
	wantErr(t, "Checkpoint", o.Checkpoint(21, data[:4]), api.OK)
	clear(data)
	step(1, ask(2))
	step(1, ask(2))
	return s + files(o.d) + files(o.again().d)
}

// tellWhole is all that stands in messages.
func tellWhole(l []api.Msg) string {
	s := ""
	for _, m := range l {
		s += fmt.Sprintf("%d %v %v %v %d %v %v %v;", m.Kind, m.From, m.To, m.Ballot, m.Slot, m.List, m.Entry, m.Part)
	}
	return s
}

func TestWhatIsHandedInIsNotKept(t *testing.T) {
	want := talk(t, func(_, _ []api.Msg) {})
	got := talk(t, func(handed, _ []api.Msg) { spoil(handed...) })
	if got != want {
		t.Error("what was handed in is written to, and it answers otherwise")
	}
}

func TestWhatIsHandedInStaysAsItIs(t *testing.T) {
	// A twin of each message, made by the same call in another run, tells what it was.
	var was []api.Msg
	talk(t, func(handed, _ []api.Msg) {
		for _, m := range handed {
			was = append(was, record.CloneMsg(m))
		}
	})
	var all []api.Msg
	talk(t, func(handed, answered []api.Msg) {
		all = append(all, handed...)
		spoil(answered...)
	})
	for i := range all {
		if !record.SameMsg(all[i], was[i]) {
			t.Errorf("what was handed in has become %s, and was %s", tellWhole(all[i:i+1]), tellWhole(was[i:i+1]))
		}
	}
}

func TestWhatIsAnsweredIsNobodysElse(t *testing.T) {
	want := talk(t, func(_, _ []api.Msg) {})
	got := talk(t, func(_, answered []api.Msg) {
		for _, m := range answered {
			_ = append(m.List, api.Slotted{Slot: -7})
			_ = append(m.Part.Data, 1, 2, 3)
			_ = append(m.Entry.Ops, api.Op{Name: "more"})
		}
		spoil(answered...)
	})
	if got != want {
		t.Error("what was answered is written to, and it answers otherwise")
	}
}

// TestMessagesShareNothing: those of one answer, with one another; and with what was handed in.
func TestMessagesShareNothing(t *testing.T) {
	var all, were []api.Msg // what was handed in
	talk(t, func(handed, answered []api.Msg) {
		for _, m := range handed {
			all, were = append(all, m), append(were, record.CloneMsg(m))
		}
		var twins []api.Msg
		for _, m := range answered {
			twins = append(twins, record.CloneMsg(m))
		}
		// Each of them is written to, one by one: those behind it stay as they were.
		for i := range answered {
			spoil(answered[i])
			for k := i + 1; k < len(answered); k++ {
				if !record.SameMsg(answered[k], twins[k]) {
					t.Fatalf("two messages of an answer share their memory: %s", tellWhole(twins[k:k+1]))
				}
			}
		}
		for i := range all {
			if !record.SameMsg(all[i], were[i]) {
				t.Fatalf("a message that was handed in shares memory with an answer: %s", tellWhole(were[i:i+1]))
			}
		}
	})
}

// R4: nil and empty lists within messages and entries.
func TestNilAndEmptyLists(t *testing.T) {
	for _, empty := range []api.Entry{
		{Kind: api.EnLeave, Site: 3},
		{Kind: api.EnLeave, Site: 3, Ops: []api.Op{}, Part: api.Part{Data: []byte{}}},
		{Kind: api.EnLeave, Site: 3, Ops: sampleOps()[:0], Part: api.Part{Data: []byte("x")[:0]}},
	} {
		o := fresh(t, 0, 3)
		b := o.stand(1, 0)
		m := promise(b, 0)
		m.List, m.Ops, m.Part.Data, m.Entry.Ops = []api.Slotted{}, []api.Op{}, []byte{}, []api.Op{}
		o.step(o.in(1, m), o.all(beat(b, 0))...)
		o.propose(empty, o.all(accept(b, 0, sample(7)))...)
		o.step(o.in(1, accepted(b, 0)), o.all(chosen(with(0, b, sample(7))))...)
		o.step(o.in(1, chosen(plain(0, empty))))
		o.wantNext(0, sample(7))
		m = state(9, 0, 1, "")
		m.Part.Data = nil
		o.step(o.in(1, m))
		o.wantRestore(9, "")
	}
}

// R6.
func TestSameCallsAnswerTheSame(t *testing.T) {
	want := talk(t, func(_, _ []api.Msg) {})
	for range 5 {
		if talk(t, func(_, _ []api.Msg) {}) != want {
			t.Fatal("the same calls answer otherwise")
		}
	}
	run := func() string {
		src := source(7)
		c := newChaos(t, &src)
		s := ""
		for range 600 {
			c.move()
			s += fmt.Sprintln(c.house, len(c.net))
		}
		return s
	}
	want = run()
	for range 3 {
		if run() != want {
			t.Fatal("the same chaos is another one")
		}
	}
}

// THE BOUND: calls of a replica with many slots; one that is not near-linear would take many times as long.

const longTime = 20 * time.Second

func wantSoon(t *testing.T, what string, call func()) {
	t.Helper()
	begun := time.Now()
	call()
	if took := time.Since(begun); took > longTime {
		t.Errorf("%s took %v", what, took)
	}
}

func TestManySlots(t *testing.T) {
	const many = 4000
	b := ballot(2, 0)
	o := laid(t, 0, 5, func(s *store.Store) { s.Accept(ballot(1, 1), run(0, many, api.Ballot{})...) })
	wantSoon(t, "to take over many slots", func() {
		o.stand(2, 0)
		o.do(o.in(1, promise(b, 0, run(0, many, ballot(1, 0))...)))
		o.do(o.in(2, promise(b, 0, run(0, many, ballot(1, 0))...)))
		o.wantRole(api.RoleLead)
	})
	wantSoon(t, "some of them to be chosen, and ticks", func() {
		for slot := range int64(many) {
			o.do(o.in(1, accepted(b, slot)))
			o.do(o.in(2, accepted(b, slot)))
			if slot%200 == 0 {
				o.Tick()
			}
		}
		o.wantUpto(many)
		o.learn()
	})
	wantSoon(t, "proposals behind many", func() {
		for range 50 {
			o.Propose(named(9))
		}
		o.do(o.in(3, prepare(ballot(9, 3), 0)))
		o.do(o.in(3, ask(0)))
		o.checkpoint(many, "all")
	})
}

func TestOneAloneIsAskedOften(t *testing.T) {
	o := fresh(t, 0, 1)
	o.quiet(4)
	wantSoon(t, "many proposals", func() {
		for i := range int64(2000) {
			o.propose(named(i + 1))
			o.wantNext(i, named(i+1))
			if i%16 == 15 {
				wantErr(t, "Checkpoint", o.Checkpoint(i+1, []byte("state")), api.OK)
			}
		}
	})
}
