package replica_test

import (
	"strings"
	"testing"

	"orchard/api"
	"orchard/store"
)

// P10.4: MsState: parts of a checkpoint that come.

func (o *one) wantState(slot int64, data string) {
	o.t.Helper()
	at, got := o.s.State()
	if at != slot || string(got) != data {
		o.t.Errorf("%s: its checkpoint is at %d, %d bytes, want %d, %d bytes", o.name, at, len(got), slot, len(data))
	}
}

func TestACheckpointInOnePart(t *testing.T) {
	for _, data := range []string{"", "x", strings.Repeat("s", partBytes)} {
		o := fresh(t, 0, 3)
		o.do(o.in(1, chosen(plain(0, named(1)), plain(6, named(7)), plain(3, named(4)))))
		o.step(o.in(1, state(6, 0, 1, data)))
		o.wantState(6, data)
		o.wantUpto(7)
		o.wantNotChosen(3)
		o.wantNoNext()
		o.wantRestore(6, data)
		o.wantNext(6, named(7))
		o.wantNoNext()
		a := o.again()
		a.wantState(6, data)
	}
}

// TestACheckpointInParts: in each order in which they may come.
func TestACheckpointInParts(t *testing.T) {
	pieces := []string{"first", "", "third"}
	for _, order := range [][]int{{0, 1, 2}, {0, 2, 1}, {1, 0, 2}, {1, 2, 0}, {2, 0, 1}, {2, 1, 0}} {
		o := fresh(t, 0, 3)
		for i, k := range order {
			o.wantUpto(0)
			// They may come from several.
			o.step(o.in(1+i%2, state(9, k, 3, pieces[k])))
		}
		o.wantState(9, "firstthird")
		o.wantUpto(9)
	}
}

// TestAsManyPartsAsThereMayBe: 64, but not 65; all that a checkpoint may have, but not more.
func TestAsManyPartsAsThereMayBe(t *testing.T) {
	o := fresh(t, 0, 3)
	want := ""
	for i := range 65 {
		o.step(o.in(1, state(9, i, 65, "no")))
	}
	o.wantUpto(0)
	for i := range 64 {
		o.wantUpto(0)
		piece := strings.Repeat("p", i)
		want += piece
		o.step(o.in(1, state(9, i, 64, piece)))
	}
	o.wantState(9, want)

	o = fresh(t, 0, 3)
	full := strings.Repeat("f", partBytes)
	for i := range 32 {
		o.step(o.in(1, state(9, i, 32, full)))
	}
	o.wantState(9, strings.Repeat("f", longestState))
	// More than that the store refuses; the parts are let go of all the same.
	for i := range 33 {
		o.step(o.in(1, state(20, i, 33, full)))
	}
	o.wantUpto(9)
	o.step(o.in(1, state(20, 0, 33, "")))
	o.wantUpto(9)
	for i := range 33 {
		o.step(o.in(1, state(20, i, 33, "e")))
	}
	o.wantState(20, strings.Repeat("e", 33))
}

// TestPartsThatComeTwice: the later one takes the place of the other.
func TestPartsThatComeTwice(t *testing.T) {
	o := fresh(t, 0, 3)
	o.step(o.in(1, state(9, 0, 2, "old")))
	o.step(o.in(1, state(9, 0, 2, "newer")))
	o.wantUpto(0)
	o.step(o.in(1, state(9, 1, 2, "!")))
	o.wantState(9, "newer!")
}

// TestPartsOfAnother: of another slot, or of another Many; what was kept is let go of then.
func TestPartsOfAnother(t *testing.T) {
	for _, other := range []api.Msg{state(10, 0, 2, "x"), state(8, 0, 2, "x"), state(9, 0, 3, "x"), state(9, 1, 64, "x")} {
		o := fresh(t, 0, 3)
		o.step(o.in(1, state(9, 0, 2, "lost")))
		o.step(o.in(1, other))
		o.step(o.in(1, state(9, 1, 2, "kept")))
		o.wantUpto(0)
		o.step(o.in(1, state(9, 0, 2, "again")))
		o.wantState(9, "againkept")
	}
	// But not by those that are not kept themselves: too many, or not above Upto.
	o := fresh(t, 0, 3)
	o.step(o.in(1, state(9, 0, 2, "is")))
	o.do(o.in(1, chosen(run(0, 4, api.Ballot{})...)))
	for _, other := range []api.Msg{state(10, 0, 65, "x"), state(9, 0, 4096, "x"), state(4, 0, 2, "x"), state(0, 0, 1, "x"), state(4, 0, 1, "x")} {
		o.step(o.in(1, other))
	}
	o.step(o.in(1, state(9, 1, 2, "kept")))
	o.wantState(9, "iskept")
}

// TestTheSnapOfAPartDoesNotCount: the message's slot does.
func TestTheSnapOfAPartDoesNotCount(t *testing.T) {
	o := fresh(t, 0, 3)
	one, two := state(9, 0, 2, "a"), state(9, 1, 2, "b")
	one.Part.Snap, two.Part.Snap = 3, 400
	o.step(o.in(1, one))
	o.step(o.in(1, two))
	o.wantState(9, "ab")
}

// TestPartsThatComeLate: of a slot that is not above Upto any more, also if some of them were kept.
func TestPartsThatComeLate(t *testing.T) {
	o := fresh(t, 0, 3)
	o.step(o.in(1, state(4, 0, 2, "late")))
	o.do(o.in(1, chosen(run(0, 4, api.Ballot{})...)))
	o.step(o.in(1, state(4, 1, 2, "r")))
	o.wantUpto(4)
	o.wantState(0, "")
	o.step(o.in(1, state(3, 0, 1, "r")))
	o.wantState(0, "")
	// At Upto and one more.
	o.step(o.in(1, state(5, 0, 1, "five")))
	o.wantState(5, "five")
	o.step(o.in(1, state(5, 0, 1, "again")))
	o.wantState(5, "five")
	// Behind an Install nothing is left of its parts.
	o.step(o.in(1, state(8, 0, 2, "a")))
	o.step(o.in(1, state(8, 1, 2, "b")))
	o.wantState(8, "ab")
	o.step(o.in(1, state(9, 1, 2, "c")))
	o.wantState(8, "ab")
}

// TestTheLastCheckpoint: at MaxTime.
func TestTheLastCheckpoint(t *testing.T) {
	o := fresh(t, 0, 3)
	o.step(o.in(1, state(latest, 0, 1, "end")))
	o.wantState(latest, "end")
	o.wantRestore(latest, "end")
}

// TestACheckpointEndsALead: one that stands or leads steps down; one that follows goes on as it did.
func TestACheckpointEndsALead(t *testing.T) {
	for _, leads := range []bool{false, true} {
		o := fresh(t, 0, 3)
		if leads {
			o.lead(1)
		} else {
			o.stand(1, 0)
			o.quiet(2)
		}
		role := o.Role()
		o.step(o.in(1, state(9, 1, 2, "b")))
		o.wantRole(role)
		o.step(o.in(1, state(9, 0, 2, "a")))
		o.wantRole(api.RoleFollow)
		if leads {
			o.wantLeader(ballot(1, 0)) // nothing is said of it
		} else {
			o.wantNoLeader()
		}
		o.wantPromised(ballot(1, 0))
		o.wantWait(0, 2)
	}
	o := fresh(t, 0, 3)
	o.do(o.in(1, beat(ballot(3, 1), 0)))
	o.quiet(2)
	o.step(o.in(1, state(9, 0, 1, "b")))
	o.wantLeader(ballot(3, 1))
	o.wantWait(2, 4)
}

// TestACheckpointThatIsRefusedEndsNoLead: one that is too long.
func TestACheckpointThatIsRefusedEndsNoLead(t *testing.T) {
	o := fresh(t, 0, 3)
	o.lead(1)
	for i := range 33 {
		o.step(o.in(1, state(9, i, 33, strings.Repeat("f", partBytes))))
	}
	o.wantRole(api.RoleLead)
	o.wantUpto(0)
}

// TestOneThatLagsGetsACheckpoint: by a beat and what it asks back, in one part and in several.
func TestOneThatLagsGetsACheckpoint(t *testing.T) {
	for _, data := range []string{"", "small", strings.Repeat("great", 8000)} {
		leader := laid(t, 0, 3, func(s *store.Store) {
			s.Install(70, []byte(data))
			s.Choose(run(70, 72, api.Ballot{})...)
		})
		b := leader.lead(1)
		lags := fresh(t, 1, 3)
		lags.do(lags.in(2, chosen(plain(0, named(1)))))
		lags.wantNext(0, named(1))
		lags.step(lags.in(0, beat(b, 72)), lags.out(0, ask(1)))
		parts := leader.cut(1, 70, data)
		leader.step(leader.in(1, ask(1)), parts...)
		for i := range parts {
			lags.wantUpto(1)
			lags.step(parts[len(parts)-1-i])
		}
		lags.wantUpto(70)
		lags.wantRestore(70, data)
		lags.step(lags.in(0, beat(b, 72)), lags.out(0, ask(70)))
	}
}
