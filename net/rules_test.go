package net_test

import (
	"bytes"
	"math"
	"reflect"
	"slices"
	"testing"
	"time"

	"orchard/api"
	"orchard/net"
	"orchard/record"
)

// R2: errors' order stands in the tests of the calls; here, what no call made, what is shared, the same again, and THE BOUND.

// R5: a net that no call made.

func TestNetsThatNoCallMade(t *testing.T) {
	for _, n := range []*net.Net{nil, {}} {
		for _, l := range [][]api.Msg{nil, beats(1), refused()[:1], beats(1, 2)} {
			sent, err := n.Send(l...)
			wantErr(t, "Send", err, api.ErrMade)
			wantZero(t, "Send", sent)
		}
		for _, number := range []int64{math.MinInt64, -1, 0, 1, math.MaxInt64} {
			wantNoTake(t, "no net", n, number, api.ErrMade)
			wantNoDouble(t, "no net", n, number, api.ErrMade)
			wantErr(t, "Drop", n.Drop(number), api.ErrMade)
			for _, at := range []int{-1, 0, 1} {
				wantErr(t, "Spoil", n.Spoil(number, at, 1), api.ErrMade)
			}
		}
		if n.All() == nil {
			t.Fatal("there is no iterator")
		}
		wantEmpty(t, "a net that no call made", n)
		if n.Lose() != 0 || n.Clone() != nil {
			t.Error("a net that no call made answers", n.Lose(), n.Clone())
		}
	}
}

func TestZeroNetStaysSo(t *testing.T) {
	n := &net.Net{}
	n.Send(beats(1, 2)...)
	n.Lose(addr(1, 0))
	n.Double(1)
	if _, err := n.Send(beats(1)...); err != api.ErrMade || n.Len() != 0 || !reflect.ValueOf(*n).IsZero() {
		t.Error("a zero net has become another one")
	}
}

// R3: what is handed in or answered, and then written to.

// spoilMsg writes to all that a message shares with its copies.
func spoilMsg(m *api.Msg) {
	for i := range m.List {
		spoilEntry(&m.List[i].Entry)
	}
	clear(m.List)
	spoilEntry(&m.Entry)
	clear(m.Ops)
	spoilBytes(m.Part.Data)
}

func spoilEntry(e *api.Entry) {
	clear(e.Ops)
	spoilBytes(e.Part.Data)
}

func spoilBytes(b []byte) {
	b = b[:cap(b)]
	for i := range b {
		b[i] ^= 255
	}
}

func TestMessagesHandedInStayAsTheyAre(t *testing.T) {
	l := sampleMsgs()
	n := with(t, l...)
	for i := range l {
		n.Spoil(int64(i+1), 4, 4)
	}
	n.Double(1)
	n.Take(2)
	n.Lose(addr(1, 1))
	if !reflect.DeepEqual(l, sampleMsgs()) {
		t.Error("messages that were handed in have changed")
	}
}

func TestMessagesHandedInAreNotKept(t *testing.T) {
	l := sampleMsgs()
	n := with(t, l...)
	before := look(t, n)
	for i := range l {
		spoilMsg(&l[i])
	}
	clear(l)
	wantFace(t, "what was handed in is written to", n, before)
	for i, m := range sampleMsgs() {
		wantTake(t, "what was handed in is written to", n, int64(i+1), m)
	}
}

func TestAddressesHandedInStayAsTheyAre(t *testing.T) {
	l := []api.Addr{addr(1, 1), addr(0, 3), addr(1, 1), addr(9, 9)}
	with(t, talk()...).Lose(l...)
	if want := []api.Addr{addr(1, 1), addr(0, 3), addr(1, 1), addr(9, 9)}; !slices.Equal(l, want) {
		t.Errorf("addresses that were handed in are %v", l)
	}
}

// TestMessagesTakenAreNobodysElse: also those of doubles and clones.
func TestMessagesTakenAreNobodysElse(t *testing.T) {
	for _, m := range sampleMsgs() {
		n := with(t, m, m)
		wantDouble(t, "one", n, 1, 3)
		c := n.Clone()
		got, _ := n.Take(1)
		spoilMsg(&got)
		wantTake(t, "another one like it", n, 2, m)
		wantTake(t, "its double", n, 3, m)
		wantTake(t, "its clone", c, 1, m)
	}
}

func TestBytesToldAreNobodysElse(t *testing.T) {
	n := with(t, sampleMsgs()...)
	wantDouble(t, "one", n, 3, 16)
	c := n.Clone()
	before := look(t, n)
	all := n.All()
	for range 2 {
		var told []plain
		for s := range all {
			told = append(told, plain{s.Number, s.From, s.To, string(s.Data)})
			spoilBytes(s.Data)
			_ = append(s.Data, 1, 2, 3)
		}
		if !slices.Equal(told, before.waiting) {
			t.Error("what was told and written to is told otherwise again")
		}
		wantFace(t, "what was told is written to", n, before)
		wantFace(t, "what was told is written to, a clone", c, before)
	}
	one, other := slices.Collect(all), slices.Collect(all)
	spoilBytes(one[2].Data)
	if !bytes.Equal(other[2].Data, []byte(before.waiting[2].data)) || !bytes.Equal(one[15].Data, []byte(before.waiting[15].data)) {
		t.Error("two lists that were told share memory")
	}
}

// TestBytesToldStay: Spoil does not reach what was told.
func TestBytesToldStay(t *testing.T) {
	n := with(t, beats(1)...)
	told := slices.Collect(n.All())[0]
	wantErr(t, "Spoil", n.Spoil(1, 2, 255), api.OK)
	if !bytes.Equal(told.Data, bytesOf(t, beat(1))) {
		t.Error("what was told has changed with the net")
	}
}

// Iterators tell what was there when they were asked for.

func collect(all func(func(api.Sent) bool)) []plain {
	var l []plain
	all(func(s api.Sent) bool {
		l = append(l, plain{s.Number, s.From, s.To, string(s.Data)})
		return true
	})
	return l
}

func TestAllOfTheMoment(t *testing.T) {
	changes := []func(n *net.Net){
		func(n *net.Net) { n.Take(1) },
		func(n *net.Net) { n.Drop(3) },
		func(n *net.Net) { n.Take(4) },
		func(n *net.Net) { n.Spoil(2, 0, 255) },
		func(n *net.Net) { n.Double(2) },
		func(n *net.Net) { n.Send(many(9)...) },
		func(n *net.Net) { n.Lose(addr(1, 1)) },
		func(n *net.Net) { n.Send(many(50)...) },
	}
	n := with(t, beats(1, 2, 3, 4)...)
	var iterators []func(func(api.Sent) bool)
	var wants [][]plain
	for _, change := range changes {
		iterators = append(iterators, n.All())
		wants = append(wants, waitingIn(n))
		change(n)
		for i, all := range iterators {
			if got := collect(all); !slices.Equal(got, wants[i]) {
				t.Errorf("the iterator that was asked for behind %d changes tells %v, want %v", i, got, wants[i])
			}
		}
	}
}

func TestAllOfAnEmptyNetStaysEmpty(t *testing.T) {
	n := with(t)
	all := n.All()
	wantSent(t, "one", n, beats(1), 1)
	if got := collect(all); len(got) != 0 {
		t.Errorf("what came later is told: %v", got)
	}
}

func TestAllWhileTheNetIsChanged(t *testing.T) {
	n := with(t, beats(1, 2, 3, 4)...)
	before := waitingIn(n)
	var got []plain
	for s := range n.All() {
		got = append(got, plain{s.Number, s.From, s.To, string(s.Data)})
		if s.Number == 1 {
			wantErr(t, "Spoil", n.Spoil(3, 0, 255), api.OK)
			wantErr(t, "Drop", n.Drop(2), api.OK)
		}
		if s.Number != 2 {
			wantDouble(t, "in the midst", n, s.Number, look(t, n).next)
			wantErr(t, "Drop", n.Drop(s.Number), api.OK)
		}
	}
	if !slices.Equal(got, before) {
		t.Errorf("told is %v, want %v", got, before)
	}
	wantNumbers(t, "changed in the midst", n, 5, 6, 7)
}

func TestAllThatIsLeft(t *testing.T) {
	n := with(t, beats(1, 2, 3)...)
	all := n.All()
	for many := range 4 {
		var got []int64
		for s := range all {
			if len(got) == many {
				break
			}
			got = append(got, s.Number)
		}
		if want := []int64{1, 2, 3}[:many]; !slices.Equal(got, want) {
			t.Errorf("left behind %d: %d, want %d", many, got, want)
		}
	}
	pairs := 0
	for x := range all {
		for y := range all {
			if y.Number > x.Number {
				break
			}
			pairs++
		}
	}
	if pairs != 6 || len(collect(all)) != 3 {
		t.Error("one within another:", pairs, "and done again:", len(collect(all)))
	}
}

// R6: Lose and All go through no map whose order could be seen.
func TestSameCallsAnswerTheSame(t *testing.T) {
	tell := func() (face, int) {
		s := source(77)
		n := net.New()
		lost := 0
		for range 300 {
			for range 10 {
				n.Send(someMsg(&s))
			}
			n.Double(int64(s.below(500)))
			n.Drop(int64(s.below(500)))
			lost += n.Lose(someAddr(&s), someAddr(&s))
		}
		return look(t, n), lost
	}
	first, lost := tell()
	for range 5 {
		if again, other := tell(); !again.same(first) || other != lost {
			t.Fatal("the same calls answer otherwise")
		}
	}
}

// THE BOUND: some calls with as much as there may be, of which one that is not near-linear would take many times as long.

const longTime = 20 * time.Second

func wantSoon(t *testing.T, what string, call func()) {
	t.Helper()
	begun := time.Now()
	call()
	if took := time.Since(begun); took > longTime {
		t.Errorf("%s took %v", what, took)
	}
}

func TestLoseOfManyAddresses(t *testing.T) {
	n := holding(t, api.MaxPending)
	var l []api.Addr
	for i := range 1 << 21 {
		l = append(l, addr(i+9, i))
	}
	wantSoon(t, "Lose of many addresses", func() {
		if lost := n.Lose(l...); lost != 0 {
			t.Error("Lose of many that are none's:", lost)
		}
		if lost := n.Lose(append(l, addr(1, 1))...); lost != api.MaxPending {
			t.Error("Lose of many, and one of theirs:", lost)
		}
	})
}

func TestSendOfManyMoreThanMayWait(t *testing.T) {
	l := slices.Repeat(sampleMsgs()[1:2], 4*api.MaxPending)
	n := net.New()
	wantSoon(t, "Send of many", func() { wantSent(t, "many", n, l, api.MaxPending) })
	wantSoon(t, "All and Clone of many", func() {
		if got := len(collect(n.All())) + n.Clone().Len(); got != 2*api.MaxPending {
			t.Error("there wait", got)
		}
	})
	wantSoon(t, "Take of all from both ends and the midst", func() {
		for i := range int64(api.MaxPending / 4) {
			for _, number := range []int64{i + 1, api.MaxPending - i, api.MaxPending/2 - i, api.MaxPending/2 + 1 + i} {
				if m, err := n.Take(number); err != api.OK || m.Kind != api.MsPromise {
					t.Fatalf("Take(%d): error %d", number, err)
				}
			}
		}
	})
	if n.Len() != 0 {
		t.Error("there are left", n.Len())
	}
}

// TestMessagesHandedInTwice: the same message in several places of a call is several messages.
func TestMessagesHandedInTwice(t *testing.T) {
	m := sampleMsgs()[10]
	n := with(t, m, m, m)
	wantNumbers(t, "three times the same", n, 1, 2, 3)
	wantErr(t, "Spoil", n.Spoil(2, 3, 3), api.OK)
	wantTake(t, "the first one", n, 1, record.CloneMsg(m))
	wantTake(t, "the third one", n, 3, record.CloneMsg(m))
}
