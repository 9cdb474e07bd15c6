package net_test

import (
	"bytes"
	"math"
	"slices"
	"testing"

	"orchard/api"
	"orchard/net"
	"orchard/record"
)

// P3.2: messages are taken, doubled, dropped, spoilt.

// wantNone: none of the number waits, whatever is asked of it, and nothing changes.
func wantNone(t *testing.T, what string, n *net.Net, number int64) {
	t.Helper()
	wantSame(t, what, n, func() {
		wantNoTake(t, what, n, number, api.ErrNone)
		wantNoDouble(t, what, n, number, api.ErrNone)
		wantErr(t, what+": Drop", n.Drop(number), api.ErrNone)
		// Places that are none, too: ErrNone comes ahead of ErrArg.
		for _, at := range []int{-1, 0, 1, math.MaxInt} {
			wantErr(t, what+": Spoil", n.Spoil(number, at, 1), api.ErrNone)
		}
	})
}

func TestNumbersThatWereNeverGiven(t *testing.T) {
	for _, n := range []*net.Net{with(t), with(t, beats(1)...), with(t, beats(1, 2, 3)...), holding(t, api.MaxPending)} {
		next := look(t, n).next
		for _, number := range []int64{0, -1, -2, math.MinInt64, next, next + 1, next + 1<<32, math.MaxInt64} {
			wantNone(t, "a number that was never given", n, number)
		}
	}
}

func TestNumbersThatWaitNoMore(t *testing.T) {
	n := with(t, beats(1, 2, 3, 4, 5, 6, 7)...)
	wantTake(t, "the fourth one", n, 4, beat(4))
	wantErr(t, "Drop", n.Drop(2), api.OK)
	wantErr(t, "Spoil", n.Spoil(6, 1, 1), api.OK)
	wantNoTake(t, "a spoilt one", n, 6, api.ErrCheck)
	for _, number := range []int64{2, 4, 6} {
		wantNone(t, "a number that waits no more", n, number)
	}
	wantNumbers(t, "what is left", n, 1, 3, 5, 7)
	wantTake(t, "the first one", n, 1, beat(1))
	wantTake(t, "the last one", n, 7, beat(7))
	wantNone(t, "the first one", n, 1)
	wantNone(t, "the last one", n, 7)
	n.Lose(addr(1, 0))
	for number := range int64(9) {
		wantNone(t, "a number of an empty net", n, number)
	}
}

// TestNumbersAreNotGivenTwice: also the greatest one that was given is not given anew when its message is gone.
func TestNumbersAreNotGivenTwice(t *testing.T) {
	gone := []struct {
		what string
		do   func(n *net.Net, number int64)
	}{
		{"Take", func(n *net.Net, number int64) { n.Take(number) }},
		{"Take of a spoilt one", func(n *net.Net, number int64) { n.Spoil(number, 2, 2); n.Take(number) }},
		{"Drop", func(n *net.Net, number int64) { n.Drop(number) }},
		{"Lose", func(n *net.Net, number int64) { n.Lose(addr(1, 1)) }},
		{"a message that was passed over", func(n *net.Net, number int64) { n.Send(api.Msg{}); n.Drop(number) }},
	}
	for _, c := range gone {
		n := with(t)
		for number := int64(1); number < 20; number += 2 {
			wantSent(t, c.what, n, beats(int(number)), 1)
			wantNumbers(t, c.what, n, number)
			wantDouble(t, c.what, n, number, number+1)
			c.do(n, number)
			c.do(n, number+1)
			wantFace(t, "behind "+c.what, n, face{next: number + 2})
		}
	}
}

// orders calls each with all orders of the numbers 1 to n.
func orders(n int, each func([]int64)) {
	var goOn func(ahead []int64)
	goOn = func(ahead []int64) {
		if len(ahead) == n {
			each(ahead)
			return
		}
		for x := int64(1); x <= int64(n); x++ {
			if !slices.Contains(ahead, x) {
				goOn(append(slices.Clone(ahead), x))
			}
		}
	}
	goOn(nil)
}

func TestTakeAndDropInAnyOrder(t *testing.T) {
	l := sampleMsgs()[:5]
	orders(len(l), func(order []int64) {
		n := with(t, l...)
		left := look(t, n)
		for i, number := range order {
			if i%2 == int(order[0])%2 {
				wantErr(t, "Drop", n.Drop(number), api.OK)
			} else {
				wantTake(t, "in any order", n, number, l[number-1])
			}
			left.waiting = slices.DeleteFunc(left.waiting, func(p plain) bool { return p.number == number })
			wantFace(t, "what is left", n, left)
		}
	})
}

func TestTakeEachKind(t *testing.T) {
	l := sampleMsgs()
	n := with(t, l...)
	for i, m := range l {
		wantTake(t, "each Kind", n, int64(i+1), m)
		wantNoTake(t, "again", n, int64(i+1), api.ErrNone)
	}
	wantFace(t, "all taken", n, face{next: int64(len(l) + 1)})
}

// TestTakeOfSpoiltOnes: every byte of a message of every Kind, turned in one bit and in all.
func TestTakeOfSpoiltOnes(t *testing.T) {
	for _, m := range sampleMsgs() {
		b := bytesOf(t, m)
		for at := range b {
			for _, mask := range []byte{1, 64, 128, 255} {
				n := with(t, m, beat(2))
				wantErr(t, "Spoil", n.Spoil(1, at, mask), api.OK)
				want := errorOf(b, at, mask)
				if want == api.OK {
					t.Fatalf("Unmarshal takes a message whose byte %d was turned", at)
				}
				wantNoTake(t, "a spoilt one", n, 1, want)
				wantNumbers(t, "a spoilt one waits no more", n, 2)
				wantTake(t, "the one behind it", n, 2, beat(2))
			}
		}
	}
}

// turnInto spoils a message till it has other bytes.
func turnInto(t *testing.T, n *net.Net, number int64, from, into []byte) {
	t.Helper()
	if len(from) != len(into) {
		t.Fatalf("%d bytes cannot become %d", len(from), len(into))
	}
	for at := range from {
		wantErr(t, "Spoil", n.Spoil(number, at, from[at]^into[at]), api.OK)
	}
}

// TestTakeOfWhatItsBytesSay: a spoilt message that passes its check is what its bytes say, though it is told by its own From and To.
func TestTakeOfWhatItsBytesSay(t *testing.T) {
	own, other := between(addr(1, 2), addr(3, 4)), between(addr(5, 1), addr(6, 0))
	n := with(t, own)
	turnInto(t, n, 1, bytesOf(t, own), bytesOf(t, other))
	wantFace(t, "turned into another one", n, face{[]plain{{1, own.From, own.To, string(bytesOf(t, other))}}, 2})
	wantDouble(t, "turned into another one", n, 1, 2)
	wantFace(t, "doubled", n, face{[]plain{
		{1, own.From, own.To, string(bytesOf(t, other))},
		{2, own.From, own.To, string(bytesOf(t, other))},
	}, 3})
	wantTake(t, "turned into another one", n, 1, other)
	if lost := n.Lose(other.From, other.To); lost != 0 {
		t.Error("lost by the address that only its bytes say:", lost)
	}
	if lost := n.Lose(own.To); lost != 1 {
		t.Error("lost by its own address:", lost)
	}
}

func TestDouble(t *testing.T) {
	l := sampleMsgs()
	n := with(t, l...)
	want := look(t, n)
	for i := range l {
		p := want.waiting[i]
		p.number = want.next
		wantDouble(t, "each Kind", n, int64(i+1), p.number)
		want.waiting = append(want.waiting, p)
		want.next++
		wantFace(t, "each Kind", n, want)
	}
	for i, m := range l {
		wantTake(t, "a double", n, int64(len(l)+i+1), m)
	}
	for i, m := range l {
		wantTake(t, "one whose double was taken", n, int64(i+1), m)
	}
	wantFace(t, "all taken", n, face{next: want.next})
}

func TestDoubleOfDoubles(t *testing.T) {
	n := with(t, beats(1, 2)...)
	wantDouble(t, "the second one", n, 2, 3)
	wantDouble(t, "its double", n, 3, 4)
	wantDouble(t, "the second one again", n, 2, 5)
	wantErr(t, "Drop", n.Drop(2), api.OK)
	wantDouble(t, "a double whose first one is gone", n, 3, 6)
	for _, number := range []int64{4, 3, 6, 5} {
		wantTake(t, "a double", n, number, beat(2))
	}
	wantNumbers(t, "what is left", n, 1)
}

func TestDoubleOfSpoiltOnes(t *testing.T) {
	n := with(t, beats(1)...)
	wantErr(t, "Spoil", n.Spoil(1, 3, 7), api.OK)
	wantDouble(t, "a spoilt one", n, 1, 2)
	wantErr(t, "Spoil back", n.Spoil(1, 3, 7), api.OK)
	wantTake(t, "the one that was spoilt back", n, 1, beat(1))
	wantNoTake(t, "its double, which was not", n, 2, api.ErrCheck)
}

// TestDoublesAreApart: what is done to one of two is not done to the other one.
func TestDoublesAreApart(t *testing.T) {
	for _, spoilt := range []int64{1, 2} {
		n := with(t, beats(1)...)
		wantDouble(t, "one", n, 1, 2)
		wantErr(t, "Spoil", n.Spoil(spoilt, 3, 7), api.OK)
		wantTake(t, "the other one", n, 3-spoilt, beat(1))
		wantNoTake(t, "the spoilt one", n, spoilt, api.ErrCheck)
	}
}

func TestDoubleUpToMaxPending(t *testing.T) {
	n := holding(t, api.MaxPending-1)
	wantDouble(t, "with room for one", n, 7, api.MaxPending)
	wantSame(t, "a full net", n, func() {
		for _, number := range []int64{1, 7, api.MaxPending} {
			wantNoDouble(t, "a full net", n, number, api.ErrFull)
		}
		// ErrNone is named ahead of ErrFull.
		for _, number := range []int64{0, -1, api.MaxPending + 1} {
			wantNoDouble(t, "a full net, none of that number", n, number, api.ErrNone)
		}
	})
	wantTake(t, "the double", n, api.MaxPending, beat(7))
	wantDouble(t, "with room for one", n, 8, api.MaxPending+1)
	wantTake(t, "the double", n, api.MaxPending+1, beat(8))
}

func TestDrop(t *testing.T) {
	n := with(t, beats(1, 2, 3, 4, 5)...)
	for _, c := range []struct {
		number int64
		left   []int64
	}{{3, []int64{1, 2, 4, 5}}, {5, []int64{1, 2, 4}}, {1, []int64{2, 4}}, {4, []int64{2}}, {2, nil}} {
		wantErr(t, "Drop", n.Drop(c.number), api.OK)
		wantNumbers(t, "behind Drop", n, c.left...)
		wantErr(t, "Drop again", n.Drop(c.number), api.ErrNone)
	}
}

func TestSpoil(t *testing.T) {
	for _, m := range sampleMsgs() {
		n := with(t, beat(1), m, beat(3))
		want := look(t, n)
		b := bytesOf(t, m)
		for i, at := range []int{0, len(b) - 1, len(b) / 2, 0} {
			mask := byte(1 + 50*i)
			b[at] ^= mask
			want.waiting[1].data = string(b)
			wantErr(t, "Spoil", n.Spoil(2, at, mask), api.OK)
			wantFace(t, "Spoil of one byte", n, want)
		}
	}
}

func TestSpoilAtPlacesThatAreNone(t *testing.T) {
	m := beat(1)
	size := len(bytesOf(t, m))
	n := with(t, m)
	wantSame(t, "places that are none", n, func() {
		for _, at := range []int{-1, size, size + 1, math.MinInt, math.MaxInt} {
			for _, mask := range []byte{0, 1, 255} {
				wantErr(t, "Spoil", n.Spoil(1, at, mask), api.ErrArg)
			}
		}
	})
	wantErr(t, "Spoil of the last byte", n.Spoil(1, size-1, 1), api.OK)
	wantErr(t, "Spoil of the first byte", n.Spoil(1, 0, 1), api.OK)
}

// TestSpoilAtTheEndOfEach: which places there are hangs on the message that is named.
func TestSpoilAtTheEndOfEach(t *testing.T) {
	l := sampleMsgs()
	n := with(t, l...)
	for i, m := range l {
		size := len(bytesOf(t, m))
		wantErr(t, "Spoil of the last byte", n.Spoil(int64(i+1), size-1, 1), api.OK)
		wantErr(t, "Spoil behind it", n.Spoil(int64(i+1), size, 1), api.ErrArg)
	}
}

func TestSpoilWithNothing(t *testing.T) {
	n := with(t, beats(1)...)
	wantSame(t, "with 0", n, func() {
		for at := range bytesOf(t, beat(1)) {
			wantErr(t, "Spoil with 0", n.Spoil(1, at, 0), api.OK)
		}
	})
	wantTake(t, "not spoilt", n, 1, beat(1))
}

func TestSpoilAndBack(t *testing.T) {
	m := sampleMsgs()[1]
	n := with(t, m)
	b := bytesOf(t, m)
	for at := range b {
		wantErr(t, "Spoil", n.Spoil(1, at, byte(at)|1), api.OK)
	}
	wantErr(t, "Spoil of a byte again", n.Spoil(1, 0, 8), api.OK)
	for at := range b {
		wantErr(t, "Spoil back", n.Spoil(1, at, byte(at)|1), api.OK)
	}
	c := n.Clone()
	wantNoTake(t, "all but one byte back", c, 1, errorOf(b, 0, 8))
	wantErr(t, "Spoil back", n.Spoil(1, 0, 8), api.OK)
	wantTake(t, "spoilt back", n, 1, m)
}

// errorOf is what Unmarshal says of bytes with one of them turned.
func errorOf(b []byte, at int, with byte) api.Errno {
	turned := bytes.Clone(b)
	turned[at] ^= with
	_, err := record.Unmarshal(turned)
	return err
}

// TestSpoiltOnesKeepTheirAddresses: by From and To a message is told and lost, whatever its bytes say.
func TestSpoiltOnesKeepTheirAddresses(t *testing.T) {
	m := between(addr(1, 2), addr(3, 4))
	size := len(bytesOf(t, m))
	for at := range size {
		n := with(t, m)
		wantErr(t, "Spoil", n.Spoil(1, at, 2), api.OK)
		for s := range n.All() {
			if s.From != m.From || s.To != m.To {
				t.Errorf("spoilt at %d: from %v to %v", at, s.From, s.To)
			}
		}
		if lost := n.Clone().Lose(m.From); lost != 1 {
			t.Errorf("spoilt at %d: Lose of From: %d", at, lost)
		}
		if lost := n.Lose(m.To); lost != 1 {
			t.Errorf("spoilt at %d: Lose of To: %d", at, lost)
		}
	}
}
