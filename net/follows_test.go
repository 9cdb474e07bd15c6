package net_test

import (
	"slices"
	"testing"

	"orchard/api"
	"orchard/net"
	"orchard/record"
)

// P3.4: what follows, held against nets that are driven at random, and against a plain telling of the chapter.

// model is the chapter's words, one by one, over a list of messages that wait.
type model struct {
	given   int64 // the last number that was given
	waiting []plain
}

func (m *model) at(number int64) int {
	return slices.IndexFunc(m.waiting, func(p plain) bool { return p.number == number })
}

func (m *model) comes(from, to api.Addr, data string) {
	m.given++
	m.waiting = append(m.waiting, plain{m.given, from, to, data})
}

func (m *model) goes(i int) plain {
	p := m.waiting[i]
	m.waiting = slices.Delete(m.waiting, i, i+1)
	return p
}

func (m *model) clone() *model { return &model{m.given, slices.Clone(m.waiting)} }

func (m *model) face() face { return face{slices.Clone(m.waiting), m.given + 1} }

// step is a call with all that it may be given.
type step struct {
	kind   int
	msgs   []api.Msg
	number int64
	at     int
	with   byte
	addrs  []api.Addr
}

// answer is what a call may answer.
type answer struct {
	msg    api.Msg
	number int64
	err    api.Errno
}

func (x answer) same(y answer) bool {
	return record.SameMsg(x.msg, y.msg) && x.number == y.number && x.err == y.err
}

const (
	stepSend = iota
	stepTake
	stepDouble
	stepDrop
	stepSpoil
	stepLose
	stepKinds
)

func (x step) run(n *net.Net) answer {
	var a answer
	switch x.kind {
	case stepSend:
		var sent int
		sent, a.err = n.Send(x.msgs...)
		a.number = int64(sent)
	case stepTake:
		a.msg, a.err = n.Take(x.number)
	case stepDouble:
		a.number, a.err = n.Double(x.number)
	case stepDrop:
		a.err = n.Drop(x.number)
	case stepSpoil:
		a.err = n.Spoil(x.number, x.at, x.with)
	case stepLose:
		a.number = int64(n.Lose(x.addrs...))
	}
	return a
}

func (m *model) run(x step) answer {
	switch x.kind {
	case stepSend:
		return m.send(x.msgs)
	case stepLose:
		before := len(m.waiting)
		m.waiting = slices.DeleteFunc(m.waiting, func(p plain) bool {
			return slices.Contains(x.addrs, p.from) || slices.Contains(x.addrs, p.to)
		})
		return answer{number: int64(before - len(m.waiting))}
	}
	i := m.at(x.number)
	if i < 0 {
		return answer{err: api.ErrNone}
	}
	switch x.kind {
	case stepTake:
		msg, err := record.Unmarshal([]byte(m.goes(i).data))
		return answer{msg: msg, err: err}
	case stepDouble:
		if len(m.waiting) == 16384 {
			return answer{err: api.ErrFull}
		}
		p := m.waiting[i]
		m.comes(p.from, p.to, p.data)
		return answer{number: m.given}
	case stepDrop:
		m.goes(i)
		return answer{}
	}
	return answer{err: m.spoil(i, x)}
}

func (m *model) send(l []api.Msg) answer {
	sent := int64(0)
	for _, msg := range l {
		b, err := record.Marshal(msg)
		if err == api.OK && len(m.waiting) < 16384 {
			m.comes(msg.From, msg.To, string(b))
			sent++
		}
	}
	return answer{number: sent}
}

func (m *model) spoil(i int, x step) api.Errno {
	b := []byte(m.waiting[i].data)
	if x.at < 0 || x.at >= len(b) {
		return api.ErrArg
	}
	b[x.at] ^= x.with
	m.waiting[i].data = string(b)
	return api.OK
}

func someAddr(s *source) api.Addr { return addr(s.below(3), s.below(3)) }

func someMsg(s *source) api.Msg {
	l := sampleMsgs()
	m := l[s.below(len(l))]
	m.From, m.To = someAddr(s), someAddr(s)
	if s.below(8) == 0 {
		m.From.Group = -1
	}
	return m
}

func someStep(s *source, given int64) step {
	x := step{kind: s.below(stepKinds), number: int64(s.below(int(given)+3)) - 1, at: s.below(40) - 1, with: byte(s.next())}
	for range s.below(6) {
		x.msgs = append(x.msgs, someMsg(s))
	}
	if s.below(3) > 0 {
		x.kind = s.below(stepLose)
	}
	for range s.below(3) {
		x.addrs = append(x.addrs, someAddr(s))
	}
	return x
}

// ledger says of bytes how often they came to wait, by being sent, doubled or turned, and were not taken since.
type ledger map[string]int

// wantSentBefore is P3.4: what is taken was sent, doubled or turned into that, and not taken so often before.
func (l ledger) wantSentBefore(t *testing.T, seed uint64, x step, a answer, before face) {
	t.Helper()
	if a.err != api.OK {
		return
	}
	if x.kind == stepSend {
		for _, m := range x.msgs {
			if b, err := record.Marshal(m); err == api.OK {
				l[string(b)]++
			}
		}
	}
	if x.kind == stepTake {
		b := string(bytesOf(t, a.msg))
		if l[b] == 0 {
			t.Fatalf("seed %d: what was not sent is taken: %+v", seed, a.msg)
		}
		l[b]--
	}
	for _, p := range before.waiting {
		if p.number != x.number {
			continue
		}
		switch x.kind {
		case stepDouble:
			l[p.data]++
		case stepSpoil:
			b := []byte(p.data)
			b[x.at] ^= x.with
			l[p.data]--
			l[string(b)]++
		}
	}
}

// ledgerOf is what may be taken from a net that has come to be as the model is.
func ledgerOf(m *model) ledger {
	l := ledger{}
	for _, p := range m.waiting {
		l[p.data]++
	}
	return l
}

func runAtRandom(t *testing.T, seed uint64, steps int) {
	t.Helper()
	s := source(seed)
	n, m, sent := with(t), &model{}, ledger{}
	aside, asideModel := n.Clone(), m.clone()
	for i := range steps {
		switch s.below(10) {
		case 0:
			aside, asideModel = n.Clone(), m.clone()
		case 1:
			// The clone goes on, and the net is laid aside.
			n, aside, m, asideModel = aside, n, asideModel, m
			sent = ledgerOf(m)
		}
		x := someStep(&s, m.given)
		before := m.face()
		want, got := m.run(x), x.run(n)
		if !got.same(want) {
			t.Fatalf("seed %d, step %d: %+v: %+v, want %+v", seed, i, x, got, want)
		}
		after := look(t, n)
		if !after.same(m.face()) {
			t.Fatalf("seed %d, step %d: behind %+v: %s", seed, i, x, after.unlike(m.face()))
		}
		if got.err != api.OK && x.kind != stepTake && !after.same(before) {
			t.Fatalf("seed %d, step %d: behind the error %d of %+v: %s", seed, i, got.err, x, after.unlike(before))
		}
		if other := look(t, aside); !other.same(asideModel.face()) {
			t.Fatalf("seed %d, step %d: the clone behind %+v: %s", seed, i, x, other.unlike(asideModel.face()))
		}
		sent.wantSentBefore(t, seed, x, got, before)
	}
}

func TestNetsAtRandom(t *testing.T) {
	for seed := range uint64(150) {
		runAtRandom(t, seed, 100)
	}
}

func FuzzNet(f *testing.F) {
	for seed := range uint64(10) {
		f.Add(seed)
	}
	f.Fuzz(func(t *testing.T, seed uint64) { runAtRandom(t, seed, 200) })
}

// TestTakenAsSent: of many messages, half of them doubled and all taken out of order, each is taken as it was sent, and then nothing is left.
func TestTakenAsSent(t *testing.T) {
	s := source(5)
	n := with(t)
	sent := map[int64]api.Msg{}
	for number := int64(1); len(sent) < 2000; number++ {
		m := someMsg(&s)
		m.From = someAddr(&s)
		wantSent(t, "one", n, []api.Msg{m}, 1)
		sent[number] = m
		if s.below(2) == 0 {
			wantDouble(t, "one", n, number, number+1)
			number++
			sent[number] = m
		}
	}
	// 997 has no divisor in common with how many there are: each number comes once.
	order := make([]int64, len(sent))
	for i := range order {
		order[i] = int64(i*997%len(sent)) + 1
	}
	for _, number := range order {
		wantTake(t, "as it was sent", n, number, sent[number])
		delete(sent, number)
	}
	if n.Len() != 0 || len(sent) != 0 {
		t.Error("there are left", n.Len(), "of", len(sent))
	}
}
