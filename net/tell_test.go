package net_test

import (
	"slices"
	"testing"

	"orchard/api"
	"orchard/net"
)

// P3.3: First, All, Len, Lose, Clone.

func wantFirst(t *testing.T, what string, n *net.Net, want int64) {
	t.Helper()
	if got, ok := n.First(); got != want || !ok {
		t.Errorf("%s: First: %d, %t, want %d", what, got, ok, want)
	}
}

func wantEmpty(t *testing.T, what string, n *net.Net) {
	t.Helper()
	if first, ok := n.First(); first != 0 || ok {
		t.Errorf("%s: First: %d, %t", what, first, ok)
	}
	for s := range n.All() {
		t.Errorf("%s: All tells %v", what, s)
	}
	if n.Len() != 0 {
		t.Errorf("%s: Len: %d", what, n.Len())
	}
	if lost := n.Lose(addr(1, 0), addr(1, 1)); lost != 0 {
		t.Errorf("%s: Lose: %d", what, lost)
	}
}

func TestEmptyNets(t *testing.T) {
	n := with(t)
	wantEmpty(t, "a new net", n)
	wantSent(t, "a refused one", n, refused(), 0)
	wantEmpty(t, "behind refused ones", n)
	wantSent(t, "one", n, beats(1), 1)
	wantTake(t, "one", n, 1, beat(1))
	wantEmpty(t, "behind Take", n)
	wantSent(t, "two", n, beats(2, 3), 2)
	wantErr(t, "Drop", n.Drop(3), api.OK)
	wantErr(t, "Drop", n.Drop(2), api.OK)
	wantEmpty(t, "behind Drop", n)
	wantSent(t, "two", n, beats(4, 5), 2)
	n.Lose(addr(1, 0))
	wantEmpty(t, "behind Lose", n)
	wantEmpty(t, "a clone", n.Clone())
}

func TestFirstAndLen(t *testing.T) {
	n := with(t, beats(1, 2, 3)...)
	wantFirst(t, "three", n, 1)
	wantTake(t, "the second one", n, 2, beat(2))
	wantFirst(t, "the second one taken", n, 1)
	wantDouble(t, "the first one", n, 1, 4)
	wantErr(t, "Drop", n.Drop(1), api.OK)
	wantFirst(t, "the first one dropped", n, 3)
	if n.Len() != 2 {
		t.Error("Len:", n.Len())
	}
	wantErr(t, "Spoil", n.Spoil(3, 0, 255), api.OK)
	wantFirst(t, "a spoilt one", n, 3)
	wantNoTake(t, "a spoilt one", n, 3, errorOf(bytesOf(t, beat(3)), 0, 255))
	wantFirst(t, "only the double left", n, 4)
	wantSent(t, "one more", n, beats(5), 1)
	wantFirst(t, "one more", n, 4)
	if n.Len() != 2 {
		t.Error("Len:", n.Len())
	}
}

func TestLenUpToMaxPending(t *testing.T) {
	n := with(t)
	for i := range 4 {
		wantSent(t, "a quarter", n, many(api.MaxPending/4), api.MaxPending/4)
		if want := (i + 1) * api.MaxPending / 4; n.Len() != want {
			t.Errorf("Len: %d, want %d", n.Len(), want)
		}
	}
	for number := range int64(api.MaxPending) {
		wantErr(t, "Drop", n.Drop(number+1), api.OK)
		if want := api.MaxPending - 1 - int(number); n.Len() != want {
			t.Fatalf("Len: %d, want %d", n.Len(), want)
		}
	}
}

// TestAllByNumber: rising, whatever was done in between.
func TestAllByNumber(t *testing.T) {
	n := with(t, beats(1, 2, 3, 4, 5, 6)...)
	wantDouble(t, "the fifth one", n, 5, 7)
	wantDouble(t, "the first one", n, 1, 8)
	wantTake(t, "the third one", n, 3, beat(3))
	wantErr(t, "Drop", n.Drop(6), api.OK)
	wantSent(t, "more", n, beats(9, 10), 2)
	wantTake(t, "the first one", n, 1, beat(1))
	wantErr(t, "Spoil", n.Spoil(4, 0, 1), api.OK)
	wantNumbers(t, "all", n, 2, 4, 5, 7, 8, 9, 10)
	var slots []int64
	for s := range n.All() {
		m, err := n.Clone().Take(s.Number)
		if err == api.OK {
			slots = append(slots, m.Slot)
		}
	}
	if want := []int64{2, 5, 5, 1, 9, 10}; !slices.Equal(slots, want) {
		t.Errorf("the slots are %d, want %d", slots, want)
	}
}

// talk are messages between four replicas, and one from a replica to itself.
func talk() []api.Msg {
	a, b, c, d := addr(0, 0), addr(0, 1), addr(1, 0), addr(1, 1)
	return []api.Msg{between(a, b), between(b, a), between(c, d), between(a, c), between(d, d), between(b, d)}
}

func TestLose(t *testing.T) {
	a, b, c, d := addr(0, 0), addr(0, 1), addr(1, 0), addr(1, 1)
	cases := []struct {
		what string
		l    []api.Addr
		left []int64
	}{
		{"no address", nil, []int64{1, 2, 3, 4, 5, 6}},
		{"From and To of several", []api.Addr{a}, []int64{3, 5, 6}},
		{"From of two and To of one", []api.Addr{b}, []int64{3, 4, 5}},
		{"From of one and To of one", []api.Addr{c}, []int64{1, 2, 5, 6}},
		{"From and To of the same", []api.Addr{d}, []int64{1, 2, 4}},
		{"the same one twice", []api.Addr{d, d}, []int64{1, 2, 4}},
		{"two", []api.Addr{a, d}, nil},
		{"two", []api.Addr{c, b}, []int64{5}},
		{"two that are From and To of one", []api.Addr{c, d}, []int64{1, 2}},
		{"one of theirs and one that is none's", []api.Addr{addr(5, 4), c}, []int64{1, 2, 5, 6}},
		{"all", []api.Addr{a, b, c, d}, nil},
		{"one that is none's", []api.Addr{addr(8, 4)}, []int64{1, 2, 3, 4, 5, 6}},
		{"half of an address", []api.Addr{addr(0, 2), addr(2, 0)}, []int64{1, 2, 3, 4, 5, 6}},
		{"none that there is", []api.Addr{addr(-1, 0), addr(0, -1), addr(9, 0), addr(0, 5), addr(1, 1<<40)}, []int64{1, 2, 3, 4, 5, 6}},
	}
	for _, x := range cases {
		n := with(t, talk()...)
		want := look(t, n)
		want.waiting = slices.DeleteFunc(want.waiting, func(p plain) bool { return !slices.Contains(x.left, p.number) })
		if lost := n.Lose(x.l...); lost != 6-len(x.left) {
			t.Errorf("Lose of %s: %d", x.what, lost)
		}
		wantFace(t, "Lose of "+x.what, n, want)
		if lost := n.Lose(x.l...); lost != 0 {
			t.Errorf("Lose of %s again: %d", x.what, lost)
		}
		wantFace(t, "Lose of "+x.what+" again", n, want)
	}
}

func TestLoseOfDoublesAndSpoiltOnes(t *testing.T) {
	n := with(t, talk()...)
	wantDouble(t, "the first one", n, 1, 7)
	wantErr(t, "Spoil", n.Spoil(4, 2, 1), api.OK)
	if lost := n.Lose(addr(0, 0)); lost != 4 {
		t.Error("Lose:", lost)
	}
	wantNumbers(t, "what is left", n, 3, 5, 6)
	wantSent(t, "more", n, talk(), 6)
	wantNumbers(t, "behind more", n, 3, 5, 6, 8, 9, 10, 11, 12, 13)
}

func TestLoseMakesRoom(t *testing.T) {
	n := holding(t, api.MaxPending-2)
	wantSent(t, "two others", n, talk()[:2], 2)
	wantSent(t, "a full net", n, beats(1), 0)
	if lost := n.Lose(addr(0, 1)); lost != 2 {
		t.Error("Lose of two:", lost)
	}
	wantSent(t, "room for two", n, many(3), 2)
	if lost := n.Lose(addr(1, 1)); lost != api.MaxPending || n.Len() != 0 {
		t.Error("Lose of all:", lost)
	}
	wantFace(t, "Lose of all", n, face{next: api.MaxPending + 3})
	wantSent(t, "room for all", n, many(api.MaxPending+1), api.MaxPending)
}

func TestClone(t *testing.T) {
	n := with(t, sampleMsgs()...)
	wantDouble(t, "one", n, 3, 16)
	wantTake(t, "one", n, 1, sampleMsgs()[0])
	wantErr(t, "Drop", n.Drop(16), api.OK)
	wantErr(t, "Spoil", n.Spoil(5, 2, 3), api.OK)
	c := n.Clone()
	if c == n {
		t.Fatal("the clone is the net itself")
	}
	wantFace(t, "the clone", c, look(t, n))
	wantFace(t, "the clone's clone", c.Clone(), look(t, n))
	wantFace(t, "the clone of an empty net", with(t).Clone(), face{next: 1})
}

// TestClonesGoTheirOwnWay: what is done to one of them is not done to the other one.
func TestClonesGoTheirOwnWay(t *testing.T) {
	ways := []struct {
		what string
		do   func(n *net.Net)
	}{
		{"Send", func(n *net.Net) { n.Send(beats(7, 8)...) }},
		{"Take of the first one", func(n *net.Net) { n.Take(1) }},
		{"Take of the second one", func(n *net.Net) { n.Take(2) }},
		{"Take of the last one", func(n *net.Net) { n.Take(3) }},
		{"Double", func(n *net.Net) { n.Double(2) }},
		{"Drop", func(n *net.Net) { n.Drop(2) }},
		{"Spoil", func(n *net.Net) { n.Spoil(2, 0, 255) }},
		{"Lose", func(n *net.Net) { n.Lose(addr(1, 1)) }},
		{"Drop of all and Send", func(n *net.Net) { n.Lose(addr(1, 1)); n.Send(many(5)...) }},
	}
	for _, one := range ways {
		for _, other := range ways {
			n := with(t, beats(1, 2, 3)...)
			c := n.Clone()
			before := look(t, n)
			one.do(n)
			wantFace(t, "the clone behind "+one.what+" of the net", c, before)
			after := look(t, n)
			if after.same(before) {
				t.Errorf("%s changes nothing", one.what)
			}
			other.do(c)
			wantFace(t, "the net behind "+other.what+" of the clone", n, after)
			alone := with(t, beats(1, 2, 3)...)
			other.do(alone)
			wantFace(t, other.what+" of the clone", c, look(t, alone))
		}
	}
}

func TestCloneOfAFullNet(t *testing.T) {
	n := holding(t, api.MaxPending)
	c := n.Clone()
	wantFace(t, "the clone", c, look(t, n))
	wantNoDouble(t, "the clone", c, 1, api.ErrFull)
	wantSent(t, "the clone", c, beats(1), 0)
	wantTake(t, "the clone", c, 9, beat(9))
	wantDouble(t, "the clone", c, 1, api.MaxPending+1)
	wantTake(t, "the net", n, 9, beat(9))
}
