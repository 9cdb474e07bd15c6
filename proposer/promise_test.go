package proposer_test

import (
	"math"
	"slices"
	"testing"

	"orchard/api"
)

// P8.2: Promise.

// TestPromiseOfEachKind: what came is in its slot, and slots between have EnNone.
func TestPromiseOfEachKind(t *testing.T) {
	for i, e := range samples() {
		for at := range int64(4) {
			p := ready(t, ballot(3, 1), 10, 3, slotted(10+at, ballot(3, 0), e))
			entries := append(make([]api.Entry, at), sample(i))
			wantFace(t, "each Kind", p, 0, face{ballot(3, 1), true, 11 + at, fresh(3, 10, entries...)})
		}
	}
}

// TestNothingCame: then no slot has an entry, and Next is from.
func TestNothingCame(t *testing.T) {
	for n := 1; n <= most; n++ {
		for _, from := range []int64{0, 1, 77, latest - 1, latest} {
			wantFace(t, "nothing came", ready(t, ballot(1, 0), from, n), from, face{ballot: ballot(1, 0), ready: true, next: from})
		}
	}
}

// TestSeveralCame: of several replicas, in any order, with slots in any order.
func TestSeveralCame(t *testing.T) {
	s := source(1)
	for n := 1; n <= most; n++ {
		for _, order := range orders(n) {
			var all []api.Slotted
			for i := range 9 {
				all = append(all, slotted(5+int64(i)*2, ballot(int64(1+i), i%n), sample(i)))
			}
			all = shuffled(&s, all)
			p := newOne(t, ballot(50, 0), 5, n)
			for i := range half(n) {
				l := all[i*9/half(n) : (i+1)*9/half(n)]
				wantPromise(t, "some of them", p, i+1 == half(n), order[i], l...)
			}
			var entries []api.Entry
			for i := range 9 {
				entries = append(entries, sample(i), api.Entry{})
			}
			wantFace(t, "several", p, 0, face{ballot(50, 0), true, 22, fresh(n, 5, entries[:17]...)})
		}
	}
}

// TestNothingIsThereAheadOfAMajority: what came has no slot yet.
func TestNothingIsThereAheadOfAMajority(t *testing.T) {
	p := newOne(t, ballot(9, 4), 5, 5)
	want := face{ballot: ballot(9, 4), next: 5}
	for replica := range 2 {
		wantPromise(t, "no majority", p, false, replica, slotted(5, ballot(1, 0), named(1)), slotted(8, ballot(1, 0), named(2)))
		wantFace(t, "no majority", p, 0, want)
		for number := range int64(10) {
			wantNotAccepted(t, "no majority", p, api.ErrNone, replica, number)
		}
		wantNoPut(t, "no majority", p, api.ErrReady, named(1))
		wantForget(t, "no majority", p, api.ErrReady, 5)
	}
	wantPromise(t, "a majority", p, true, 2)
	entries := []api.Entry{named(1), {}, {}, named(2)}
	wantFace(t, "a majority", p, 0, face{ballot(9, 4), true, 9, fresh(5, 5, entries...)})
}

// TestTheGreatestBallotCounts: of three that came for a slot, in every order of their coming, by Round, then Replica.
func TestTheGreatestBallotCounts(t *testing.T) {
	ballots := []api.Ballot{{}, ballot(0, 4), ballot(1, 0), ballot(1, 4), ballot(2, 0), ballot(2, 1), ballot(7, 0), ballot(1<<32, 3), ballot(1<<32+1, 0), ballot(latest, 3)}
	for i, least := range ballots {
		for j := i + 1; j < len(ballots); j++ {
			for k := j + 1; k < len(ballots); k++ {
				came := []api.Slotted{slotted(5, least, sample(i+1)), slotted(5, ballots[j], sample(j+2)), slotted(5, ballots[k], named(9))}
				for _, order := range orders(3) {
					p := newOne(t, ballot(latest, 4), 5, 5)
					for replica, at := range order {
						wantPromise(t, "the same slot", p, replica == 2, replica, came[at])
					}
					wantFace(t, "the same slot", p, 0, face{ballot(latest, 4), true, 6, fresh(5, 5, named(9))})
				}
			}
		}
	}
}

// TestOfEqualBallotsTheFirstOneCounts: whichever replica brought it.
func TestOfEqualBallotsTheFirstOneCounts(t *testing.T) {
	for i := range samples() {
		for j := range samples() {
			for _, order := range orders(3) {
				p := newOne(t, ballot(5, 0), 5, 5)
				wantPromise(t, "the first one", p, false, order[0], slotted(5, ballot(4, 4), sample(i)))
				wantPromise(t, "the same ballot", p, false, order[1], slotted(5, ballot(4, 4), sample(j)))
				wantPromise(t, "a lesser one", p, true, order[2], slotted(5, ballot(4, 3), named(1)))
				wantFace(t, "equal ballots", p, 0, face{ballot(5, 0), true, 6, fresh(5, 5, sample(i))})
			}
		}
	}
}

// TestEachSlotHasItsOwnGreatestBallot: two slots, whose greatest ballots came from unlike replicas.
func TestEachSlotHasItsOwnGreatestBallot(t *testing.T) {
	one := []api.Slotted{slotted(5, ballot(4, 0), named(1)), slotted(7, ballot(2, 0), named(2))}
	other := []api.Slotted{slotted(7, ballot(3, 0), named(3)), slotted(5, ballot(3, 4), named(4))}
	for _, lists := range [][2][]api.Slotted{{one, other}, {other, one}} {
		p := newOne(t, ballot(5, 0), 5, 3)
		wantPromise(t, "one", p, false, 0, lists[0]...)
		wantPromise(t, "the other one", p, true, 1, lists[1]...)
		wantFace(t, "both", p, 0, face{ballot(5, 0), true, 8, fresh(3, 5, named(1), api.Entry{}, named(3))})
	}
}

// TestAnEmptyEntryMayCome: one that is EnNone counts by its ballot as all others do, and makes Next greater.
func TestAnEmptyEntryMayCome(t *testing.T) {
	p := newOne(t, ballot(5, 0), 5, 3)
	wantPromise(t, "entries", p, false, 0, slotted(5, ballot(2, 0), named(1)), slotted(6, ballot(4, 0), named(2)))
	wantPromise(t, "EnNone", p, true, 1, slotted(5, ballot(3, 0), api.Entry{}), slotted(6, ballot(3, 0), api.Entry{}), slotted(8, ballot(1, 0), api.Entry{}))
	wantFace(t, "EnNone", p, 0, face{ballot(5, 0), true, 9, fresh(3, 5, api.Entry{}, named(2), api.Entry{}, api.Entry{})})
}

// TestTheMajoritysLastPromiseCounts: and none behind it.
func TestTheMajoritysLastPromiseCounts(t *testing.T) {
	for n := 1; n <= most; n++ {
		for _, order := range orders(n) {
			p := newOne(t, ballot(9, 0), 5, n)
			for i, replica := range order {
				isReady := i+1 >= half(n)
				wantPromise(t, "each brings more", p, isReady, replica, slotted(5, ballot(int64(i+1), 4), named(int64(i))), slotted(6+int64(i), ballot(1, 0), sample(i)))
				if !isReady {
					wantFace(t, "no majority", p, 0, face{ballot: ballot(9, 0), next: 5})
					continue
				}
				entries := []api.Entry{named(int64(half(n) - 1))}
				for k := range half(n) {
					entries = append(entries, sample(k))
				}
				wantFace(t, "the majority's", p, 0, face{ballot(9, 0), true, 6 + int64(half(n)), fresh(n, 5, entries...)})
			}
		}
	}
}

// TestLaterPromisesChangeNothing: what is put, accepted and forgotten stays as it is.
func TestLaterPromisesChangeNothing(t *testing.T) {
	p := ready(t, ballot(9, 0), 5, 5, slotted(6, ballot(1, 0), named(1)))
	wantPut(t, "one", p, 7, named(2))
	for replica := range 3 {
		wantAccepted(t, "of five", p, replica == 2, replica, 5)
	}
	wantAccepted(t, "of five", p, false, 4, 6)
	wantForget(t, "the first one", p, api.OK, 6)
	before := look(t, p, 0)
	for replica := 3; replica < 5; replica++ {
		wantPromise(t, "later", p, true, replica, slotted(5, ballot(8, 0), named(3)), slotted(6, ballot(8, 0), named(4)), slotted(7, ballot(8, 0), named(5)), slotted(20, ballot(8, 4), named(6)))
		wantFace(t, "later", p, 0, before)
	}
}

// TestLaterPromisesAreJudged: by all errors; from stays what it was, whatever is forgotten.
func TestLaterPromisesAreJudged(t *testing.T) {
	p := ready(t, ballot(9, 1), 5, 5)
	for i := range int64(10) {
		wantPut(t, "one", p, 5+i, named(i))
	}
	for number := int64(5); number < 15; number++ {
		for replica := range 5 {
			wantAccepted(t, "all", p, replica == 2, replica, number)
		}
	}
	wantForget(t, "all", p, api.OK, 15)
	wantNoPromise(t, "no replica", p, api.ErrArg, 5)
	wantNoPromise(t, "below from", p, api.ErrArg, 3, slotted(4, ballot(1, 0), named(1)))
	wantNoPromise(t, "the same ballot", p, api.ErrArg, 3, slotted(5, ballot(9, 1), named(1)))
	wantNoPromise(t, "far above from", p, api.ErrLong, 3, slotted(5+gap+1, ballot(9, 0), named(1)))
	wantNoPromise(t, "refused", p, api.ErrField, 3, slotted(5, ballot(9, 0), refused()[0]))
	wantNoPromise(t, "twice", p, api.ErrTwice, 2)
	wantPromise(t, "slots that are forgotten, and the farthest one", p, true, 3, slotted(5, ballot(9, 0), named(1)), slotted(5+gap, ballot(9, 0), named(1)))
	wantNoPromise(t, "twice", p, api.ErrTwice, 3)
	wantPromise(t, "nothing", p, true, 4)
}

// TestSlotsThatMayCome: at from, one below it, at from + MaxGap and one more, at MaxTime and one more.
func TestSlotsThatMayCome(t *testing.T) {
	for _, from := range []int64{0, 1, 5, 1 << 33, latest - gap - 1, latest - gap, latest - gap + 1, latest - 10, latest - 1, latest} {
		for _, number := range []int64{
			math.MinInt64, -1, 0, from - 1, from, from + 1, from + gap - 1, from + gap, from + gap + 1,
			latest - 1, latest, latest + 1, latest + gap + 1, math.MaxInt64,
		} {
			want := api.OK
			if number < from || number > latest {
				want = api.ErrArg
			} else if number > from+gap {
				want = api.ErrLong
			}
			wantSlot(t, from, number, want)
		}
	}
}

// wantSlot: whether a slot may come, alone and behind one that may.
func wantSlot(t *testing.T, from, number int64, want api.Errno) {
	t.Helper()
	came := slotted(number, ballot(1, 0), named(1))
	lists := [][]api.Slotted{{came}, {slotted(from, ballot(1, 0), named(2)), came}}
	if number == from {
		lists = lists[:1]
	}
	for _, l := range lists {
		p := newOne(t, ballot(1, 1), from, 3)
		if want != api.OK {
			wantNoPromise(t, "a slot that may not come", p, want, 0, l...)
			wantPromise(t, "it has not promised", p, false, 0)
			wantPromise(t, "another one", p, true, 1)
			wantFace(t, "nothing came", p, from, face{ballot: ballot(1, 1), ready: true, next: from})
			continue
		}
		wantPromise(t, "a slot that may come", p, false, 0, l...)
		wantPromise(t, "another one", p, true, 1)
		if p.Next() != number+1 || int64(len(p.Waiting())) != number+1-from {
			t.Errorf("from %d, slot %d: next %d, %d wait", from, number, p.Next(), len(p.Waiting()))
		}
	}
}

// TestAllSlotsThatMayCome: MaxGap and one more, backwards.
func TestAllSlotsThatMayCome(t *testing.T) {
	var l []api.Slotted
	var want []api.Slotted
	for i := range int64(gap + 1) {
		l = append(l, slotted(3+i, ballot(i+1, 0), named(i)))
		want = append(want, slotted(3+i, ballot(latest, 0), named(i)))
	}
	slices.Reverse(l)
	p := newOne(t, ballot(latest, 0), 3, 1)
	wantPromise(t, "all slots", p, true, 0, l...)
	wantList(t, "all slots", p.Waiting(), want)
	wantPut(t, "behind all of them", p, 3+gap+1, named(1))
}

// TestBallotsThatMayCome: all below the proposer's own, even such as no acceptor has; none that is not.
func TestBallotsThatMayCome(t *testing.T) {
	for _, own := range []api.Ballot{ballot(1, 0), ballot(1, 1), ballot(2, 0), ballot(7, 3), ballot(latest, 4)} {
		for _, b := range []api.Ballot{
			{}, ballot(0, 4), ballot(0, math.MaxInt), ballot(-1, 0), ballot(math.MinInt64, math.MinInt), ballot(1, -1), ballot(1, 0), ballot(1, 1), ballot(1, 4),
			ballot(2, 0), ballot(7, 2), ballot(7, 3), ballot(7, 4), ballot(6, 99), ballot(latest, 3), ballot(latest, 4), ballot(latest, 5), ballot(latest+1, 0),
			ballot(math.MaxInt64, 0), ballot(own.Round, own.Replica-1), ballot(own.Round, own.Replica+1), ballot(own.Round-1, most-1), ballot(own.Round+1, 0),
		} {
			p := newOne(t, own, 5, 5)
			l := []api.Slotted{slotted(6, ballot(0, 0), named(1)), slotted(5, b, named(2))}
			if below(b, own) {
				wantPromise(t, "below", p, false, 0, l...)
				continue
			}
			wantNoPromise(t, "not below", p, api.ErrArg, 0, l[1])
			wantNoPromise(t, "not below, behind another", p, api.ErrArg, 0, l...)
			wantPromise(t, "it has not promised", p, false, 0)
		}
	}
}

func TestReplicasThatMayPromise(t *testing.T) {
	for n := 1; n <= most; n++ {
		for _, replica := range []int{math.MinInt, -256, -1, 0, n - 1, n, most - 1, most, 8, 256, 256 + n - 1, math.MaxInt} {
			p := newOne(t, ballot(1, 0), 5, n)
			if replica >= 0 && replica < n {
				wantPromise(t, "one of them", p, n == 1, replica)
				continue
			}
			wantNoPromise(t, "none of them", p, api.ErrArg, replica)
			wantNoPromise(t, "none of them", p, api.ErrArg, replica, slotted(5, ballot(0, 0), named(1)))
		}
	}
}

func TestASlotTwiceInOneList(t *testing.T) {
	one := slotted(7, ballot(1, 0), named(1))
	for _, other := range []api.Slotted{one, slotted(7, ballot(2, 0), named(1)), slotted(7, ballot(1, 0), named(2))} {
		p := newOne(t, ballot(3, 0), 5, 3)
		between := []api.Slotted{slotted(8, ballot(1, 0), named(1)), one, slotted(5, ballot(1, 0), named(1)), other}
		wantNoPromise(t, "one behind the other", p, api.ErrArg, 0, one, other)
		wantNoPromise(t, "others between", p, api.ErrArg, 0, between...)
		wantPromise(t, "each in a list of its own", p, false, 0, one)
		wantPromise(t, "each in a list of its own", p, true, 1, other)
	}
}

func TestEntriesThatMayNotCome(t *testing.T) {
	for _, e := range refused() {
		p := newOne(t, ballot(3, 0), 5, 3)
		right := slotted(5, ballot(1, 0), named(1))
		wrong := slotted(6, ballot(1, 0), e)
		wantNoPromise(t, "alone", p, api.ErrField, 0, wrong)
		wantNoPromise(t, "ahead of one", p, api.ErrField, 0, wrong, right)
		wantNoPromise(t, "behind one", p, api.ErrField, 0, right, wrong)
		wantPromise(t, "it has not promised", p, false, 0)
		wantPromise(t, "another one", p, true, 1)
		wantFace(t, "nothing came", p, 0, face{ballot: ballot(3, 0), ready: true, next: 5})
	}
}

// TestPromiseErrorsOrder: of all entries ErrArg is told first, then ErrLong, then ErrField, then ErrTwice, wherever they stand.
func TestPromiseErrorsOrder(t *testing.T) {
	far, bad := int64(5+gap+1), refused()[3]
	args := []api.Slotted{slotted(4, ballot(1, 0), named(1)), slotted(latest+1, ballot(1, 0), named(1)), slotted(6, ballot(3, 0), named(1)), slotted(far, ballot(3, 0), bad), slotted(4, ballot(4, 0), bad)}
	long, longToo := slotted(far, ballot(1, 0), named(1)), slotted(latest, ballot(1, 0), bad)
	field := slotted(8, ballot(1, 0), bad)
	right := slotted(9, ballot(1, 0), named(1))
	p := newOne(t, ballot(3, 0), 5, 5)
	wantPromise(t, "one", p, false, 1, right)
	for _, order := range orders(4) {
		for _, replica := range []int{0, 1, 5} {
			for _, arg := range args {
				wantNoPromise(t, "ErrArg", p, api.ErrArg, replica, pick(order, arg, slotted(far+1, ballot(1, 0), named(1)), field, right)...)
			}
			wantNoPromise(t, "a slot twice", p, api.ErrArg, replica, pick(order, long, long, field, right)...)
			wantNoPromise(t, "a slot twice, refused", p, api.ErrArg, replica, pick(order, field, long, field, right)...)
			want := api.ErrLong
			if replica == 5 {
				want = api.ErrArg
			}
			wantNoPromise(t, "ErrLong", p, want, replica, pick(order, long, field, right, slotted(7, ballot(1, 0), bad))...)
			wantNoPromise(t, "ErrLong of one that is refused", p, want, replica, pick(order, longToo, field, right, slotted(7, ballot(1, 0), named(1)))...)
		}
		wantNoPromise(t, "ErrField", p, api.ErrField, 1, pick(order, field, right, slotted(7, ballot(1, 0), bad), slotted(6, ballot(1, 0), named(1)))...)
		wantNoPromise(t, "ErrTwice", p, api.ErrTwice, 1, pick(order, slotted(8, ballot(1, 0), named(1)), right, slotted(7, ballot(1, 0), named(1)), slotted(6, ballot(1, 0), named(1)))...)
	}
	wantPromise(t, "no error", p, false, 2)
	wantPromise(t, "no error", p, true, 3)
	wantFace(t, "what came with errors did not count", p, 0, face{ballot(3, 0), true, 10, fresh(5, 5, append(make([]api.Entry, 4), named(1))...)})
}

// pick is a list in an order.
func pick(order []int, l ...api.Slotted) []api.Slotted {
	var out []api.Slotted
	for _, at := range order {
		out = append(out, l[at])
	}
	return out
}

// TestASecondPromiseDoesNotCount: neither for the majority, nor what it brings.
func TestASecondPromiseDoesNotCount(t *testing.T) {
	p := newOne(t, ballot(5, 0), 5, 3)
	wantPromise(t, "its first one", p, false, 2, slotted(5, ballot(1, 0), named(1)))
	for range 4 {
		wantNoPromise(t, "its second one", p, api.ErrTwice, 2, slotted(5, ballot(2, 0), named(2)), slotted(9, ballot(2, 0), named(2)))
	}
	wantPromise(t, "another one", p, true, 0)
	wantFace(t, "a second promise", p, 0, face{ballot(5, 0), true, 6, fresh(3, 5, named(1))})
}

// R4.
func TestPromiseOfNilAndEmptyLists(t *testing.T) {
	p := newOne(t, ballot(5, 0), 5, 3)
	wantPromise(t, "nil", p, false, 0, []api.Slotted(nil)...)
	wantPromise(t, "empty", p, true, 1, []api.Slotted{}...)
	wantPromise(t, "none", p, true, 2)
	wantFace(t, "no lists", p, 0, face{ballot: ballot(5, 0), ready: true, next: 5})
}
