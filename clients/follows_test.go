package clients_test

import (
	"fmt"
	"testing"

	"orchard/api"
	"orchard/clients"
)

// What follows: P15.4.

// history is a table with all requests that were put, of each session in the order in which they came.
type history struct {
	c   *clients.Table
	put map[int64][]int64
}

// try puts a request; what is taken is the session's next one.
func (h *history) try(t *testing.T, what string, session, request int64) {
	t.Helper()
	if h.c.Put(session, request, replyTo(session, request)) != api.OK {
		return
	}
	h.put[session] = append(h.put[session], request)
	if request != int64(len(h.put[session])) {
		t.Errorf("%s: of the session %d were put %v", what, session, h.put[session])
	}
}

// replyTo is a reply that no other request has.
func replyTo(session, request int64) api.Reply { return named(session*1000 + request) }

// check asks for each request that was put, and for one ahead of them and one behind them.
func (h *history) check(t *testing.T, what string) {
	t.Helper()
	if h.c.Len() != len(h.put) {
		t.Errorf("%s: Len is %d, and requests were put of %d sessions", what, h.c.Len(), len(h.put))
	}
	for session, put := range h.put {
		last := int64(len(put))
		if h.c.Last(session) != last {
			t.Errorf("%s: Last(%d) is %d, want %d", what, session, h.c.Last(session), last)
		}
		for _, request := range put[:last-1] {
			wantAsk(t, what, h.c, session, request, api.Reply{}, cliOld)
		}
		wantAsk(t, what, h.c, session, last, replyTo(session, last), cliSame)
		wantAsk(t, what, h.c, session, last+1, api.Reply{}, cliNew)
	}
}

// TestEachRequestOnce: every list of six requests among the first three of two sessions.
func TestEachRequestOnce(t *testing.T) {
	const calls, choices = 6, 6
	lists := 1
	for range calls {
		lists *= choices
	}
	for list := range lists {
		h := &history{newOne(t), map[int64][]int64{}}
		what := fmt.Sprintf("list %d", list)
		for range calls {
			h.try(t, what, int64(list%2+1), int64(list/2%3+1))
			list /= choices
			h.check(t, what)
		}
		if t.Failed() {
			t.FailNow()
		}
	}
}

// TestEachRequestOnceAtRandom: more sessions than there may be, with many requests.
func TestEachRequestOnceAtRandom(t *testing.T) {
	for seed := range uint64(40) {
		s := source(seed)
		h := &history{newOne(t), map[int64][]int64{}}
		sessions := 1 + s.below(80)
		for i := range 600 {
			session := int64(s.below(sessions))
			h.try(t, fmt.Sprintf("seed %d, call %d", seed, i), session, h.c.Last(session)+int64(s.below(5))-1)
		}
		h.check(t, fmt.Sprintf("seed %d", seed))
		if t.Failed() {
			t.FailNow()
		}
	}
}

// TestOldFromThenOn: of many requests each is the same till the next one is put, whatever else is put between, and old for good.
func TestOldFromThenOn(t *testing.T) {
	const many = 60
	c := newOne(t)
	for request := range int64(many) {
		for session := range int64(5) {
			wantPut(t, "the next", c, session+1, request+1, replyTo(session+1, request+1))
		}
		for session := range int64(5) {
			for before := range request {
				wantAsk(t, "an old one", c, session+1, before+1, api.Reply{}, cliOld)
				wantErr(t, "an old one", c.Put(session+1, before+1, api.Reply{}), api.ErrArg)
			}
			wantAsk(t, "the last one", c, session+1, request+1, replyTo(session+1, request+1), cliSame)
		}
	}
}

// TestRequestsGoOnBehindARestart: of a table that is told, and made anew, between any two requests.
func TestRequestsGoOnBehindARestart(t *testing.T) {
	for seed := range uint64(40) {
		s := source(seed)
		h := &history{newOne(t), map[int64][]int64{}}
		for i := range 120 {
			what := fmt.Sprintf("seed %d, call %d", seed, i)
			session := int64(1 + s.below(6))
			h.try(t, what, session, h.c.Last(session)+int64(s.below(3)))
			if s.below(3) == 0 {
				h.c = made(t, look(t, h.c)...)
			}
			h.check(t, what)
		}
		if t.Failed() {
			t.FailNow()
		}
	}
}
