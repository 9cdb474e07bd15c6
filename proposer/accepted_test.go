package proposer_test

import (
	"math"
	"slices"
	"testing"

	"orchard/api"
)

// P8.4: Accepted, Chosen, Waiting and Missing.

// missing are the replicas below n that are not in l.
func missing(n int, l []int) []int {
	var out []int
	for replica := range n {
		if !slices.Contains(l, replica) {
			out = append(out, replica)
		}
	}
	return out
}

// TestAcceptedByAllInEveryOrder: of an entry that came, of one that fills a slot, of one that was put; only one call tells that it is chosen.
func TestAcceptedByAllInEveryOrder(t *testing.T) {
	for n := 1; n <= most; n++ {
		for _, order := range orders(n) {
			for at := range int64(3) {
				p := ready(t, ballot(6, 0), 20, n, slotted(21, ballot(1, 0), sample(2)))
				wantPut(t, "one", p, 22, sample(5))
				want := face{ballot(6, 0), true, 23, fresh(n, 20, api.Entry{}, sample(2), sample(5))}
				for i, replica := range order {
					wantAccepted(t, "one more", p, i+1 == half(n), replica, 20+at)
					want.slots[at].missing = missing(n, order[:i+1])
					want.slots[at].chosen = i+1 >= half(n)
					wantFace(t, "one more", p, 0, want)
					wantNotAccepted(t, "the same again", p, api.ErrTwice, replica, 20+at)
				}
			}
		}
	}
}

// TestAcceptedWithoutAPromise: who has not promised may accept, too.
func TestAcceptedWithoutAPromise(t *testing.T) {
	p := ready(t, ballot(6, 0), 20, 5)
	wantPut(t, "one", p, 20, named(1))
	wantAccepted(t, "it has not promised", p, false, 4, 20)
	wantAccepted(t, "it has not promised", p, false, 3, 20)
	wantAccepted(t, "it has promised", p, true, 0, 20)
	wantPromise(t, "later", p, true, 3)
	wantNotAccepted(t, "the same again", p, api.ErrTwice, 3, 20)
}

// TestSlotsAreCountedEachAlone: in any order of slots and replicas.
func TestSlotsAreCountedEachAlone(t *testing.T) {
	for seed := range uint64(100) {
		s := source(seed)
		n := 1 + s.below(most)
		p := ready(t, ballot(6, 0), 20, n)
		want := face{ballot(6, 0), true, 26, nil}
		var entries []api.Entry
		var pairs [][2]int
		for i := range 6 {
			wantPut(t, "one", p, 20+int64(i), sample(i))
			entries = append(entries, sample(i))
			for replica := range n {
				pairs = append(pairs, [2]int{i, replica})
			}
		}
		want.slots = fresh(n, 20, entries...)
		for _, x := range shuffled(&s, pairs) {
			one := &want.slots[x[0]]
			one.missing = slices.DeleteFunc(one.missing, func(replica int) bool { return replica == x[1] })
			by := !one.chosen && n-len(one.missing) >= half(n)
			one.chosen = one.chosen || by
			wantAccepted(t, "one more", p, by, x[1], 20+int64(x[0]))
			wantFace(t, "one more", p, 0, want)
		}
	}
}

// TestAcceptedOfNoEntry: ahead of the first slot, at Next, above it; of slots that are forgotten.
func TestAcceptedOfNoEntry(t *testing.T) {
	p := leading(t, 3)
	for _, number := range []int64{math.MinInt64, -1, 0, 9, 13, 14, latest, latest + 1, math.MaxInt64} {
		wantNotAccepted(t, "no entry", p, api.ErrNone, 0, number)
	}
	choose(t, p, 10, 11)
	wantForget(t, "both", p, api.OK, 12)
	for replica := range 3 {
		wantNotAccepted(t, "forgotten", p, api.ErrNone, replica, 10)
		wantNotAccepted(t, "forgotten", p, api.ErrNone, replica, 11)
	}
	wantAccepted(t, "not forgotten", p, false, 2, 12)
	wantPut(t, "at Next", p, 13, named(1))
	wantAccepted(t, "it has an entry now", p, false, 2, 13)
}

// TestAcceptedAheadOfAMajority: what came has no entry yet.
func TestAcceptedAheadOfAMajority(t *testing.T) {
	p := newOne(t, ballot(6, 0), 20, 3)
	wantPromise(t, "one", p, false, 0, slotted(20, ballot(1, 0), named(1)))
	for replica := range 3 {
		wantNotAccepted(t, "no majority", p, api.ErrNone, replica, 20)
	}
	wantPromise(t, "another one", p, true, 1)
	wantFace(t, "nothing is accepted", p, 0, face{ballot(6, 0), true, 21, fresh(3, 20, named(1))})
}

// TestAcceptedByNoReplica: told ahead of ErrNone.
func TestAcceptedByNoReplica(t *testing.T) {
	for n := 1; n <= most; n++ {
		early, p := newOne(t, ballot(6, 0), 20, n), ready(t, ballot(6, 0), 20, n)
		wantPut(t, "one", p, 20, named(1))
		for _, replica := range []int{math.MinInt, -256, -8, -1, n, most, 8, 16, 256, math.MaxInt} {
			if replica == n-1 {
				continue
			}
			wantNotAccepted(t, "no replica", p, api.ErrArg, replica, 20)
			wantNotAccepted(t, "no replica, no entry", p, api.ErrArg, replica, 21)
			wantNotAccepted(t, "no replica, no slot", p, api.ErrArg, replica, -1)
			wantNotAccepted(t, "no replica, no majority", early, api.ErrArg, replica, 20)
		}
		wantAccepted(t, "the last replica", p, n == 1, n-1, 20)
	}
}

// TestWaitingIsBySlots: with p's ballot, however many there are, in whatever order they are chosen.
func TestWaitingIsBySlots(t *testing.T) {
	s := source(3)
	p := ready(t, ballot(6, 0), 20, 3, slotted(120, ballot(5, 4), named(100)))
	var numbers []int64
	for number := int64(20); number <= 120; number++ {
		numbers = append(numbers, number)
	}
	left := slices.Clone(numbers)
	for _, number := range shuffled(&s, numbers) {
		var want []api.Slotted
		for _, x := range left {
			one := slotted(x, ballot(6, 0), api.Entry{})
			if x == 120 {
				one.Entry = named(100)
			}
			want = append(want, one)
		}
		wantList(t, "Waiting", p.Waiting(), want)
		choose(t, p, number)
		left = slices.DeleteFunc(left, func(x int64) bool { return x == number })
	}
	if l := p.Waiting(); len(l) != 0 {
		t.Errorf("all are chosen: %v waits", l)
	}
}

// TestChosenIsForGood: what is told of it does not hang on what comes behind it, till it is forgotten.
func TestChosenIsForGood(t *testing.T) {
	p := leading(t, 3)
	choose(t, p, 11)
	for range 3 {
		wantNotAccepted(t, "twice", p, api.ErrTwice, 1, 11)
		if e, chosen := p.Chosen(11); !chosen || !sameEntry(e, sample(1)) {
			t.Errorf("Chosen: %+v, %v", e, chosen)
		}
	}
	wantAccepted(t, "the last one", p, false, 2, 11)
	wantPromise(t, "later", p, true, 2, slotted(11, ballot(2, 0), named(1)))
	if e, chosen := p.Chosen(11); !chosen || !sameEntry(e, sample(1)) || p.Missing(11) != nil {
		t.Errorf("Chosen: %+v, %v, missing %v", e, chosen, p.Missing(11))
	}
}
