package net_test

import (
	"slices"
	"strings"
	"testing"

	"orchard/api"
	"orchard/net"
	"orchard/record"
)

// P3.1: messages come to wait.

func TestNewNet(t *testing.T) {
	wantFace(t, "a new net", with(t), face{next: 1})
	if net.New() == net.New() {
		t.Error("two nets are one")
	}
	a, b := with(t), with(t)
	wantSent(t, "one net", a, beats(1, 2), 2)
	wantFace(t, "another net", b, face{next: 1})
}

func TestSendEachKind(t *testing.T) {
	l := sampleMsgs()
	want := face{next: 1}
	n := with(t)
	for _, m := range l {
		wantSent(t, "one by one", n, []api.Msg{m}, 1)
		want.waiting = append(want.waiting, plain{want.next, m.From, m.To, string(bytesOf(t, m))})
		want.next++
		wantFace(t, "one by one", n, want)
	}
	wantFace(t, "all at once", with(t, l...), want)
}

func TestSendOfNone(t *testing.T) {
	for _, n := range []*net.Net{with(t), with(t, beats(1, 2)...), holding(t, api.MaxPending)} {
		wantSame(t, "Send of no message", n, func() {
			wantSent(t, "no message", n, nil, 0)
			wantSent(t, "an empty list", n, []api.Msg{}, 0)
		})
	}
}

func TestSendBetweenAllReplicas(t *testing.T) {
	n := with(t)
	want := face{next: 1}
	for i := range api.MaxGroups * api.MaxReplicas {
		a := addr(i/api.MaxReplicas, i%api.MaxReplicas)
		for _, m := range []api.Msg{between(a, addr(8, 4)), between(addr(0, 0), a), between(a, a)} {
			wantSent(t, "from and to a replica", n, []api.Msg{m}, 1)
			want.waiting = append(want.waiting, plain{want.next, m.From, m.To, string(bytesOf(t, m))})
			want.next++
		}
	}
	wantFace(t, "messages between all replicas", n, want)
}

func TestSendPassesOver(t *testing.T) {
	for i, bad := range refused() {
		if _, err := record.Marshal(bad); err == api.OK {
			t.Fatalf("the message %d is not refused", i)
		}
		for place := range 4 {
			n := with(t)
			wantSent(t, "one that is refused", n, slices.Insert(beats(1, 2, 3), place, bad), 3)
			wantFace(t, "one that is refused", n, look(t, holding(t, 3)))
		}
		n := with(t, beats(1)...)
		wantSame(t, "a refused one alone", n, func() { wantSent(t, "a refused one alone", n, []api.Msg{bad}, 0) })
		wantSent(t, "behind a refused one", n, beats(2), 1)
		wantNumbers(t, "behind a refused one", n, 1, 2)
	}
	n := with(t)
	wantSent(t, "only refused ones", n, refused(), 0)
	wantFace(t, "only refused ones", n, face{next: 1})
}

func TestSendOfMoreThanMaxPending(t *testing.T) {
	n := with(t)
	wantSent(t, "more than may wait", n, many(api.MaxPending+5), api.MaxPending)
	wantFace(t, "more than may wait", n, look(t, holding(t, api.MaxPending)))
	wantTake(t, "the last one that waits", n, api.MaxPending, beat(api.MaxPending))
	wantSent(t, "one for another", n, beats(7), 1)
	wantTake(t, "one for another", n, api.MaxPending+1, beat(7))
}

func TestSendUpToMaxPending(t *testing.T) {
	n := holding(t, api.MaxPending-1)
	wantSent(t, "with room for one", n, beats(71, 72, 73), 1)
	wantSame(t, "a full net", n, func() {
		wantSent(t, "a full net", n, beats(74), 0)
		wantSent(t, "a full net", n, beats(75, 76), 0)
		wantSent(t, "a full net, a refused one", n, refused()[:1], 0)
	})
	wantTake(t, "the last one", n, api.MaxPending, beat(71))
	wantErr(t, "Drop", n.Drop(5), api.OK)
	wantSent(t, "with room for two", n, beats(77, 78, 79), 2)
	wantTake(t, "the first one of two", n, api.MaxPending+1, beat(77))
	wantTake(t, "the second one of two", n, api.MaxPending+2, beat(78))
	wantNoTake(t, "one that was lost", n, api.MaxPending+3, api.ErrNone)
}

// TestSendOfRefusedOnesTakesNoRoom: what is passed over does not count among those that wait.
func TestSendOfRefusedOnesTakesNoRoom(t *testing.T) {
	n := holding(t, api.MaxPending-2)
	l := slices.Concat(refused(), beats(71), refused(), beats(72), refused(), beats(73))
	wantSent(t, "refused ones among others", n, l, 2)
	wantTake(t, "the first one", n, api.MaxPending-1, beat(71))
	wantTake(t, "the second one", n, api.MaxPending, beat(72))
}

// opOf is an operation whose form has n bytes, 203 to 776: its texts have 64 to 255, and so lengths of two bytes.
func opOf(n int) api.Op {
	text := strings.Repeat("x", (n-11)/3)
	return api.Op{Kind: api.OpMake, Name: text, Key: text, Value: strings.Repeat("y", n-11-2*len(text))}
}

// pushOf is a message whose form has n bytes, some 2^20.
func pushOf(n int) api.Msg {
	m := api.Msg{Kind: api.MsPush, From: addr(1, 0), To: addr(2, 0)}
	const head, each = 10, 700
	left := n - head
	for left > 2*each {
		m.Ops = append(m.Ops, opOf(each))
		left -= each
	}
	m.Ops = append(m.Ops, opOf(left/2), opOf(left-left/2))
	return m
}

func TestSendOfTheLongest(t *testing.T) {
	m := pushOf(api.MaxBytes)
	if got := len(bytesOf(t, m)); got != 4+api.MaxBytes+4 {
		t.Fatal("the longest message has", got, "bytes in its frame")
	}
	more := pushOf(api.MaxBytes + 1)
	if _, err := record.Marshal(more); err != api.ErrLong {
		t.Fatal("one byte more: error", err)
	}
	n := with(t)
	wantSent(t, "the longest", n, []api.Msg{more, m, more}, 1)
	wantDouble(t, "the longest", n, 1, 2)
	for _, number := range []int64{2, 1} {
		got, err := n.Take(number)
		if err != api.OK || !record.SameMsg(got, m) {
			t.Error("Take of the longest: error", err)
		}
	}
}
