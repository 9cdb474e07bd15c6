package store_test

import (
	"fmt"
	"slices"
	"strings"
	"testing"

	"orchard/api"
	"orchard/disk"
	"orchard/record"
	"orchard/store"
)

// P9.4, P9.5: what was said is kept, and a checkpoint is the old one or the new one.

type checkpoint struct {
	slot int64
	data string
}

// oath is a store, what was asked of it, and what it has answered.
type oath struct {
	*store.Store
	promised api.Ballot              // the greatest one that an answer has promised
	ballots  []api.Ballot            // all that were asked for
	asked    map[int64][]api.Slotted // to be accepted, in order
	sworn    map[int64]int           // which of these was answered last
	chosen   map[int64][]api.Entry   // what was asked to be chosen
	state    checkpoint              // the last one that was answered
	maybe    []checkpoint            // those that were asked for behind it
}

func swear(s *store.Store) *oath {
	return &oath{Store: s, ballots: make([]api.Ballot, 1), asked: map[int64][]api.Slotted{}, sworn: map[int64]int{}, chosen: map[int64][]api.Entry{}}
}

func (o *oath) promise(b api.Ballot) {
	if below(o.promised, b) {
		o.promised = b
	}
}

func (o *oath) prepare(b api.Ballot) api.Errno {
	o.ballots = append(o.ballots, b)
	_, err := o.Prepare(b, 0)
	if err == api.OK {
		o.promise(b)
	}
	return err
}

func (o *oath) accept(b api.Ballot, l ...api.Slotted) api.Errno {
	o.ballots = append(o.ballots, b)
	for _, x := range l {
		o.asked[x.Slot] = append(o.asked[x.Slot], with(x.Slot, b, x.Entry))
	}
	err := o.Accept(b, l...)
	if err == api.OK {
		o.promise(b)
		for _, x := range l {
			o.sworn[x.Slot] = len(o.asked[x.Slot]) - 1
		}
	}
	return err
}

func (o *oath) choose(l ...api.Slotted) api.Errno {
	for _, x := range l {
		o.chosen[x.Slot] = append(o.chosen[x.Slot], x.Entry)
	}
	return o.Choose(l...)
}

func (o *oath) advance(slot int64, data string) api.Errno {
	o.maybe = append(o.maybe, checkpoint{slot, data})
	err := advance(o.Store, slot, data)
	if err == api.OK {
		o.state, o.maybe = checkpoint{slot, data}, nil
	}
	return err
}

// wantKept: a store that was opened behind a crash is one that P9.4 and P9.5 let be.
func (o *oath) wantKept(t *testing.T, what string, s *store.Store) {
	t.Helper()
	x := look(t, s)
	if below(x.promised, o.promised) || !slices.Contains(o.ballots, x.promised) {
		t.Errorf("%s: promised is %v, and was %v", what, x.promised, o.promised)
	}
	if state := (checkpoint{x.first, x.data}); state != o.state && !slices.Contains(o.maybe, state) {
		t.Errorf("%s: the checkpoint is %v, and was %v, or %v", what, state, o.state, o.maybe)
	}
	o.wantAccepted(t, what, s)
	for _, c := range x.chosen {
		same := func(e api.Entry) bool { return record.SameEntry(e, c.Entry) }
		if c.Slot < x.first || !slices.ContainsFunc(o.chosen[c.Slot], same) {
			t.Errorf("%s: chosen for %d is %v, of %v", what, c.Slot, c.Entry, o.chosen[c.Slot])
		}
	}
	if t.Failed() {
		t.FailNow()
	}
}

// wantAccepted: for each slot it is what was answered last, or something that was asked for behind that.
func (o *oath) wantAccepted(t *testing.T, what string, s *store.Store) {
	t.Helper()
	for _, slot := range probes() {
		got, is := s.Accepted(slot)
		if slot < s.First() {
			if is {
				t.Errorf("%s: accepted for %d, below the checkpoint, is %v", what, slot, got)
			}
			continue
		}
		last, answered := o.sworn[slot]
		if answered && !is {
			t.Errorf("%s: nothing is accepted for %d, and %v was", what, slot, o.asked[slot][last])
		}
		may := o.asked[slot][last:]
		if is && !slices.ContainsFunc(may, func(x api.Slotted) bool { return sameSlotted(x, got) }) {
			t.Errorf("%s: accepted for %d is %v, of %v", what, slot, got, may)
		}
		if is && answered && below(got.Ballot, o.asked[slot][last].Ballot) {
			t.Errorf("%s: accepted for %d is %v, and %v was", what, slot, got, o.asked[slot][last])
		}
	}
}

// opensAgain: what it is now, it has answered.
func (o *oath) opensAgain(s *store.Store) {
	o.Store = s
	o.promised = s.Promised()
	for slot := range o.asked {
		if x, is := s.Accepted(slot); is {
			o.asked[slot] = append(o.asked[slot], x)
			o.sworn[slot] = len(o.asked[slot]) - 1
		}
	}
	slot, data := s.State()
	o.state, o.maybe = checkpoint{slot, string(data)}, nil
}

// life is what a store goes through: ballots that rise, entries one and several at a time, over segments, checkpoints of its own and another one's. It ends at the first error.
func life(o *oath) api.Errno {
	b := func(n int64) api.Ballot { return ballot(o.base()+n, 1) }
	slot := func(n int64) int64 { return o.First() + n }
	begin := o.Upto()
	steps := []func() api.Errno{
		func() api.Errno { return o.prepare(b(1)) },
		func() api.Errno { return o.accept(b(0), at(slot(0), sample(7))) },
		func() api.Errno { return o.accept(b(0), at(slot(1), sample(1)), at(slot(3), sample(6))) },
		func() api.Errno { return o.choose(o.fill(begin, begin+2)...) },
		func() api.Errno { return o.accept(b(1)) },
		func() api.Errno { return o.accept(b(0), at(slot(1), bulky(700)), at(slot(2), sample(8))) },
		func() api.Errno { return o.advance(begin+1, "a checkpoint") },
		func() api.Errno { return o.accept(b(1), at(slot(2), bulky(500)), at(slot(0), sample(6))) },
		func() api.Errno { return o.choose(o.fill(o.Upto(), o.Upto()+3)...) },
		func() api.Errno { return o.advance(slot(2), "b") },
		func() api.Errno { return o.choose(o.fill(o.Upto()+2, o.Upto()+4)...) },
		func() api.Errno { return o.accept(b(0), at(slot(5), sample(0)), at(slot(4), sample(7))) },
		func() api.Errno { return o.advance(o.Upto()+2, strings.Repeat("installed", 5)) },
		func() api.Errno { return o.choose(o.fill(o.Upto(), o.Upto()+1)...) },
		func() api.Errno { return o.prepare(b(1)) },
	}
	for _, step := range steps {
		if err := step(); err != api.OK {
			return err
		}
	}
	return api.OK
}

// base is the round that is promised.
func (o *oath) base() int64 { return o.Promised().Round }

// fill are entries for slots, which are the same each time.
func (o *oath) fill(from, to int64) []api.Slotted {
	var l []api.Slotted
	for slot := from; slot < to; slot++ {
		l = append(l, at(slot, sample(int(slot))))
	}
	return l
}

const lifeChanges = 58

// TestLifeWithoutACrash: so that the tests below have what they are to look at.
func TestLifeWithoutACrash(t *testing.T) {
	d, s := fresh(t)
	o := swear(s)
	wantChanges(t, "a life", d, lifeChanges, func() { wantErr(t, "a life", life(o), api.OK) })
	o.wantKept(t, "a life", s)
	wantReopened(t, "a life", d, s)
	wantErr(t, "a second life", life(o), api.OK)
	o.wantKept(t, "a second life", s)
	wantReopened(t, "a second life", d, s)
	o.wantKept(t, "a crash behind all", opened(t, crashed(t, d, 0)))
}

// fall lets a life crash at a change.
func fall(t *testing.T, k, keep int) (*oath, *disk.Disk) {
	t.Helper()
	d, s := fresh(t)
	o := swear(s)
	wantErr(t, "SetFuse", d.SetFuse(k, keep), api.OK)
	wantErr(t, "a life with a crash", life(o), api.ErrDown)
	if !s.Broken() {
		t.Error("a crash, and it is not broken")
	}
	wantErr(t, "Restart", d.Restart(), api.OK)
	return o, d
}

// keeps goes through all numbers of bytes that a crash at a change may keep, up to one that is above all tails.
func keeps(t *testing.T, k int, each func(o *oath, d *disk.Disk, what string)) {
	t.Helper()
	_, d := fall(t, k, 1<<20)
	all := files(t, d)
	for keep := 0; ; keep++ {
		o, d := fall(t, k, keep)
		last := slices.Equal(files(t, d), all)
		each(o, d, fmt.Sprintf("a crash at %d that keeps %d", k, keep))
		if last {
			return
		}
	}
}

func TestCrashAtEveryStep(t *testing.T) {
	for k := 1; k <= lifeChanges; k++ {
		keeps(t, k, func(o *oath, d *disk.Disk, what string) {
			s := opened(t, d)
			o.wantKept(t, what, s)
			wantReopened(t, what, d, s)
			o.opensAgain(s)
			wantErr(t, what+", and a second life", life(o), api.OK)
			o.wantKept(t, what+", and a second life", s)
			o.wantKept(t, what+", and a crash behind that", opened(t, crashed(t, d, 0)))
		})
	}
}

// TestTwoCrashes: behind the first one a second life crashes, at each change.
func TestTwoCrashes(t *testing.T) {
	for k := 1; k <= lifeChanges; k++ {
		for j := 1; ; j++ {
			o, d := fall(t, k, (k*7+j*3)%40)
			o.opensAgain(opened(t, d))
			wantErr(t, "SetFuse", d.SetFuse(j, (k*5+j*11)%50), api.OK)
			if life(o) == api.OK {
				break
			}
			wantErr(t, "Restart", d.Restart(), api.OK)
			s := opened(t, d)
			o.wantKept(t, fmt.Sprintf("a crash at %d, and one at %d behind it", k, j), s)
			wantReopened(t, "two crashes", d, s)
		}
	}
}

// TestCrashAtEveryStepOfOpen: Open itself crashes, at each of its changes.
func TestCrashAtEveryStepOfOpen(t *testing.T) {
	for k := 1; k <= lifeChanges; k++ {
		for _, keep := range []int{0, 1, 4, 9, 30, 1 << 20} {
			for j := 1; ; j++ {
				o, d := fall(t, k, keep)
				wantErr(t, "SetFuse", d.SetFuse(j, 7*j%13), api.OK)
				what := fmt.Sprintf("a crash at %d that keeps %d, and one at %d of Open", k, keep, j)
				if s, err := store.Open(d); err == api.OK {
					o.wantKept(t, what, s)
					break
				}
				wantErr(t, "Restart", d.Restart(), api.OK)
				o.wantKept(t, what, opened(t, d))
			}
		}
	}
}

// TestCrashInEachCall: each call of the store of full, and of one with a longer log, at each change, with all that may be kept.
func TestCrashInEachCall(t *testing.T) {
	for _, from := range []func(*testing.T) *disk.Disk{full, long} {
		for _, c := range calls() {
			done := opened(t, from(t))
			wantErr(t, c.what, c.do(done), api.OK)
			after := look(t, done)
			for k := 1; ; k++ {
				d := from(t)
				wantErr(t, "SetFuse", d.SetFuse(k, 1<<20), api.OK)
				if c.do(opened(t, d)) == api.OK {
					break
				}
				all := files(t, d)
				for keep, last := 0, false; !last; keep++ {
					d := from(t)
					s := opened(t, d)
					wantErr(t, "SetFuse", d.SetFuse(k, keep), api.OK)
					what := fmt.Sprintf("%s with a crash at %d that keeps %d", c.what, k, keep)
					wantErr(t, what, c.do(s), api.ErrDown)
					last = slices.Equal(files(t, d), all)
					wantErr(t, "Restart", d.Restart(), api.OK)
					wantBetween(t, what, look(t, opened(t, d)), fullFace(), after)
				}
			}
		}
	}
}

// wantBetween: what is there is, part by part, what was, or what the call was to bring.
func wantBetween(t *testing.T, what string, got, before, after face) {
	t.Helper()
	if got.promised != before.promised && got.promised != after.promised {
		t.Fatalf("%s: promised is %v", what, got.promised)
	}
	old, new := got.first == before.first && got.data == before.data, got.first == after.first && got.data == after.data
	if !old && !new {
		t.Fatalf("%s: the checkpoint is %d, %q", what, got.first, got.data)
	}
	among := func(l []api.Slotted, x api.Slotted) bool {
		return slices.ContainsFunc(l, func(y api.Slotted) bool { return sameSlotted(x, y) })
	}
	for _, x := range got.accepted {
		if x.Slot < got.first || !among(before.accepted, x) && !among(after.accepted, x) {
			t.Fatalf("%s: accepted for %d is %v", what, x.Slot, x)
		}
	}
	for _, x := range since(before.accepted, got.first) {
		if !slices.ContainsFunc(got.accepted, func(y api.Slotted) bool { return x.Slot == y.Slot }) {
			t.Fatalf("%s: what was accepted for %d is lost", what, x.Slot)
		}
	}
	for _, x := range got.chosen {
		if x.Slot < got.first || !among(before.chosen, x) && !among(after.chosen, x) {
			t.Fatalf("%s: chosen for %d is %v", what, x.Slot, x.Entry)
		}
	}
}

// TestSeveralCrashes: stores that live at random, crash, are opened and go on.
func TestSeveralCrashes(t *testing.T) {
	for seed := range uint64(60) {
		s := source(seed)
		d, st := fresh(t)
		o := swear(st)
		for i := range 40 {
			wantErr(t, "SetFuse", d.SetFuse(1+s.below(25), s.below(60)), api.OK)
			for !d.Down() {
				livesOn(o, &s)
			}
			wantErr(t, "Restart", d.Restart(), api.OK)
			st := opened(t, d)
			what := fmt.Sprintf("seed %d, crash %d", seed, i)
			o.wantKept(t, what, st)
			wantReopened(t, what, d, st)
			o.opensAgain(st)
		}
	}
}

// livesOn asks something that is not refused. Slots are few: those behind the last probes are not asked for.
func livesOn(o *oath, s *source) {
	b := o.Promised()
	if b.Round == 0 || s.below(3) == 0 {
		b = ballot(b.Round+1, s.below(replicas))
	}
	slot := func() int64 { return o.First() + int64(s.below(8)) }
	kind := s.below(12)
	if o.Upto() > 30 {
		kind = 7 + s.below(5)
	}
	switch kind {
	case 0, 1:
		o.prepare(b)
	case 2, 3:
		o.choose(at(o.Upto(), sample(int(o.Upto()))))
	case 4:
		o.choose(o.fill(o.Upto()+1, o.Upto()+3)...)
	case 5:
		if o.Upto() > o.First() && s.below(3) == 0 {
			o.advance(o.First()+1+int64(s.below(int(o.Upto()-o.First()))), strings.Repeat("c", s.below(60)))
		}
	case 6:
		if s.below(10) == 0 {
			o.advance(o.Upto()+1+int64(s.below(2)), strings.Repeat("i", s.below(60)))
		}
	case 7:
		first := slot()
		o.accept(b, at(first, sample(s.below(9))), at(first+2, bulky(s.below(400))), at(first+1, sample(s.below(9))))
	default:
		o.accept(b, at(slot(), sample(s.below(9))))
	}
}
