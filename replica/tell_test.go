package replica_test

import (
	"math"
	"runtime"
	"strings"
	"testing"

	"orchard/api"
	"orchard/store"
)

// P10.5.

func TestNextTellsInOrder(t *testing.T) {
	o := fresh(t, 0, 3)
	for slot := range int64(9) {
		o.wantNoNext()
		o.wantNoNext()
		if o.Told() != slot {
			t.Errorf("told is %d, want %d", o.Told(), slot)
		}
		o.do(o.in(1, chosen(plain(slot, sample(int(slot))))))
		o.wantNoRestore()
		o.wantNext(slot, sample(int(slot)))
	}
	// A gap is waited for.
	o.do(o.in(1, chosen(plain(10, named(11)))))
	o.wantNoNext()
	o.do(o.in(1, chosen(plain(9, named(10)))))
	o.wantNext(9, named(10))
	o.wantNext(10, named(11))
	// Opened again, it tells all of it again, as far as the disk has it.
	o.do(o.in(1, accept(ballot(1, 1), 11, named(12))))
	a := o.again()
	for slot := range int64(9) {
		a.wantNext(slot, sample(int(slot)))
	}
}

// TestNextBehindTheLastSlot: no slot is left.
func TestNextBehindTheLastSlot(t *testing.T) {
	o := laid(t, 0, 3, func(s *store.Store) {
		s.Install(latest, nil)
		s.Choose(plain(latest, named(1)))
	})
	o.wantRestore(latest, "")
	o.wantNext(latest, named(1))
	o.wantNoNext()
	if o.Told() != latest+1 {
		t.Error("told", o.Told())
	}
	// That slot is told, but no checkpoint may be there.
	wantErr(t, "Checkpoint", o.Checkpoint(latest+1, nil), api.ErrArg)
	wantErr(t, "Checkpoint", o.Checkpoint(latest+2, nil), api.ErrArg)
}

// TestRestoreTakesThePlaceOfWhatWasTold: at First, one below it, one above it.
func TestRestoreTakesThePlaceOfWhatWasTold(t *testing.T) {
	for told := range int64(4) {
		o := fresh(t, 0, 3)
		o.do(o.in(1, chosen(run(0, 3, api.Ballot{})...)))
		for slot := range told {
			o.wantNext(slot, named(slot+1))
		}
		wantErr(t, "Checkpoint behind its back", o.s.Checkpoint(2, []byte("two")), api.OK)
		if told < 2 {
			o.wantNoNext() // what is in the checkpoint is not told
			o.wantRestore(2, "two")
			if o.Told() != 2 {
				t.Error("told", o.Told())
			}
		}
		o.wantNoRestore()
		for slot := max(told, 2); slot < 3; slot++ {
			o.wantNext(slot, named(slot+1))
		}
		o.wantNoNext()
		o.wantNoRestore()
	}
}

// TestRestoreTwice: a later checkpoint is told, too.
func TestRestoreTwice(t *testing.T) {
	o := fresh(t, 0, 3)
	o.do(o.in(1, state(4, 0, 1, "four")))
	o.do(o.in(1, state(6, 0, 1, "six")))
	o.wantRestore(6, "six")
	o.wantNoRestore()
	o.do(o.in(1, state(7, 0, 1, "")))
	o.wantNoNext()
	o.wantRestore(7, "")
	o.wantNoRestore()
}

// TestCheckpoints: at Told and one above it, at First and one above it.
func TestCheckpoints(t *testing.T) {
	o := fresh(t, 0, 3)
	o.do(o.in(1, chosen(run(0, 6, api.Ballot{})...)))
	for slot := range int64(4) {
		o.wantNext(slot, named(slot+1))
	}
	for _, slot := range []int64{5, 6, 7, latest, latest + 1, math.MaxInt64} {
		wantErr(t, "Checkpoint above Told", o.Checkpoint(slot, make([]byte, longestState+1)), api.ErrArg)
	}
	for _, slot := range []int64{0, -1, math.MinInt64} {
		wantErr(t, "Checkpoint not above First", o.Checkpoint(slot, make([]byte, longestState+1)), api.ErrSlot)
	}
	wantErr(t, "Checkpoint of too much", o.Checkpoint(4, make([]byte, longestState+1)), api.ErrLong)
	o.wantState(0, "")
	wantErr(t, "Checkpoint", o.Checkpoint(4, []byte("four")), api.OK)
	o.wantState(4, "four")
	wantErr(t, "Checkpoint again", o.Checkpoint(4, []byte("again")), api.ErrSlot)
	wantErr(t, "Checkpoint below it", o.Checkpoint(3, []byte("again")), api.ErrSlot)
	if o.Told() != 4 || o.First() != 4 || o.Upto() != 6 {
		t.Error("told", o.Told(), "first", o.First(), "upto", o.Upto())
	}
	o.wantNoRestore()
	o.wantNext(4, named(5))
	wantErr(t, "Checkpoint", o.Checkpoint(5, []byte(strings.Repeat("l", longestState))), api.OK)
	o.wantNext(5, named(6))
	a := o.again()
	a.wantRestore(5, strings.Repeat("l", longestState))
}

// TestCheckpointsOfOneAlone: its proposer goes on.
func TestCheckpointsOfOneAlone(t *testing.T) {
	o := fresh(t, 0, 1)
	o.quiet(4)
	for i := range int64(40) {
		o.propose(named(i + 1))
		o.wantNext(i, named(i+1))
		if i%7 == 6 {
			wantErr(t, "Checkpoint", o.Checkpoint(i+1, []byte("s")), api.OK)
		}
	}
	o.wantRole(api.RoleLead)
	a := o.again()
	a.wantRestore(35, "s")
	a.quiet(4)
	for i := int64(35); i < 40; i++ {
		a.wantNext(i, named(i+1))
	}
	a.propose(named(41))
	a.wantNext(40, named(41))
}

// TestACheckpointSettles: a leader's entries that others have told as chosen do not wait any more; it has room for others.
func TestACheckpointSettles(t *testing.T) {
	o := filled(t, 64)
	o.do(o.in(1, chosen(run(0, 10, api.Ballot{})...)))
	o.refusedPropose(named(65), api.ErrFull)
	o.checkpoint(3, "three")
	b := ballot(1, 0)
	for slot := int64(64); slot < 74; slot++ {
		o.propose(named(slot+1), o.all(accept(b, slot, named(slot+1)))...)
	}
	o.refusedPropose(named(75), api.ErrFull)
}

// TestACheckpointLetsGo: of all that is below it, also in the leader's proposer, where that is seen by the memory alone that is in use.
func TestACheckpointLetsGo(t *testing.T) {
	o := fresh(t, 0, 1)
	o.quiet(4)
	inUse := func() uint64 {
		var m runtime.MemStats
		runtime.GC()
		runtime.ReadMemStats(&m)
		return m.HeapAlloc
	}
	const many, size = 1600, partBytes
	before := inUse()
	for i := range int64(many) {
		o.propose(api.Entry{Kind: api.EnPart, Part: api.Part{Many: 1, Data: make([]byte, size)}})
		o.learn()
		if i%16 == 15 {
			wantErr(t, "Checkpoint", o.Checkpoint(i+1, nil), api.OK)
		}
	}
	if after := inUse(); after > before+many*size/4 {
		t.Errorf("%d bytes are in use behind %d entries of %d bytes, and %d were", after, many, size, before)
	}
	o.wantRole(api.RoleLead)
}

// TestACheckpointOfOneThatStands: it stands on.
func TestACheckpointOfOneThatStands(t *testing.T) {
	o := fresh(t, 0, 3)
	o.do(o.in(1, chosen(run(0, 3, api.Ballot{})...)))
	b := o.stand(1, 3)
	o.checkpoint(3, "three")
	o.wantRole(api.RoleStand)
	o.step(o.in(1, promise(b, 3)), o.all(beat(b, 3))...)
}

func TestItTellsWhatItsStoreTells(t *testing.T) {
	o := laid(t, 0, 3, func(s *store.Store) {
		s.Install(3, []byte("state"))
		s.Choose(plain(3, sample(2)), plain(5, sample(5)))
	})
	if o.First() != 3 || o.Upto() != 4 || o.Broken() {
		t.Error("first", o.First(), "upto", o.Upto(), "broken", o.Broken())
	}
	o.wantChosen(3, sample(2))
	o.wantChosen(5, sample(5))
	for _, slot := range []int64{2, 4, 6, -1, latest, latest + 1, math.MinInt64, math.MaxInt64} {
		o.wantNotChosen(slot)
	}
	o.breakStore()
	if !o.Broken() || o.First() != 3 || o.Upto() != 4 {
		t.Error("broken: first", o.First(), "upto", o.Upto(), "broken", o.Broken())
	}
	// What it has told before it tells still.
	o.wantRestore(3, "state")
	o.wantNext(3, sample(2))
	o.wantNoNext()
}
