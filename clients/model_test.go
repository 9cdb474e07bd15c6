package clients_test

import (
	"fmt"
	"slices"
	"testing"

	"orchard/api"
	"orchard/clients"
)

// All of the chapter at once: tables that are driven at random, held against a plain telling of the chapter.

// model is the chapter's words, one by one; its list is in the order in which sessions came.
type model struct{ list []api.Row }

func (m *model) clone() *model { return &model{slices.Clone(m.list)} }

// at is where a session stands, -1 if it does not.
func (m *model) at(session int64) int {
	for i, x := range m.list {
		if x.Session == session {
			return i
		}
	}
	return -1
}

func isNumber(n int64) bool { return 1 <= n && n <= 1<<40 }

func modelFrom(rows []api.Row) (*model, api.Errno) {
	m := &model{}
	for i, x := range rows {
		if !isNumber(x.Session) || !isNumber(x.Request) {
			return nil, api.ErrArg
		}
		if m.at(x.Session) >= 0 {
			return nil, api.ErrTwice
		}
		if i+1 > 64 {
			return nil, api.ErrFull
		}
		m.list = append(m.list, x)
	}
	return m, api.OK
}

func (m *model) ask(session, request int64) (api.Reply, int) {
	if !isNumber(session) || !isNumber(request) {
		return api.Reply{}, cliBad
	}
	if i := m.at(session); i >= 0 {
		last := m.list[i].Request
		if request == last {
			return m.list[i].Reply, cliSame
		}
		if request < last {
			return api.Reply{}, cliOld
		}
		if request-last == 1 {
			return api.Reply{}, cliNew
		}
		return api.Reply{}, cliGap
	}
	if request != 1 {
		return api.Reply{}, cliGap
	}
	if len(m.list) == 64 {
		return api.Reply{}, cliFull
	}
	return api.Reply{}, cliNew
}

func (m *model) put(session, request int64, r api.Reply) api.Errno {
	_, said := m.ask(session, request)
	if said != cliNew {
		return map[int]api.Errno{cliBad: api.ErrArg, cliOld: api.ErrArg, cliGap: api.ErrArg, cliSame: api.ErrTwice, cliFull: api.ErrFull}[said]
	}
	if i := m.at(session); i >= 0 {
		m.list[i] = row(session, request, r)
		return api.OK
	}
	m.list = append(m.list, row(session, request, r))
	return api.OK
}

func (m *model) last(session int64) int64 {
	if i := m.at(session); i >= 0 {
		return m.list[i].Request
	}
	return 0
}

// pair is a table and its model.
type pair struct {
	s *source
	c *clients.Table
	m *model
}

func one[T any](s *source, l []T) T { return l[s.below(len(l))] }

func (p *pair) someSession() int64 {
	switch k := p.s.below(30); {
	case k == 0:
		return one(p.s, allNumbers())
	case k < 20 && len(p.m.list) > 0:
		return one(p.s, p.m.list).Session
	}
	return int64(1 + p.s.below(90))
}

// someRequest is near the session's last one, mostly.
func (p *pair) someRequest(session int64) int64 {
	switch k := p.s.below(30); {
	case k == 0:
		return one(p.s, allNumbers())
	case k < 20:
		return p.m.last(session) + 1
	}
	return p.m.last(session) + int64(p.s.below(6)) - 2
}

func (p *pair) someReply() api.Reply {
	if p.s.below(3) == 0 {
		return one(p.s, replies())
	}
	return named(int64(p.s.below(1000)))
}

// someRows are rows of which there may be a table, or nearly.
func (p *pair) someRows() []api.Row {
	var l []api.Row
	for i := range p.s.below(70) {
		x := row(int64(i+1), int64(1+p.s.below(9)), p.someReply())
		if p.s.below(200) == 0 {
			x = row(p.someSession(), p.someRequest(5), x.Reply)
		}
		l = append(l, x)
	}
	if p.s.below(2) == 0 {
		l = shuffled(p.s, l)
	}
	return l
}

// step does one thing to both; it tells what, and what both answered.
func (p *pair) step() (string, api.Errno, api.Errno) {
	switch p.s.below(40) {
	case 0:
		c, m := p.c.Clone(), p.m.clone()
		p.c.Put(p.someSession(), 1, named(1))
		p.c, p.m = c, m
		return "Clone", api.OK, api.OK
	case 1:
		rows := p.someRows()
		c, err := clients.From(rows...)
		m, due := modelFrom(rows)
		if err == api.OK && due == api.OK {
			p.c, p.m = c, m
		}
		return fmt.Sprintf("From of %v", rows), err, due
	case 2:
		p.c, p.m = clients.New(), &model{}
		return "New", api.OK, api.OK
	}
	session := p.someSession()
	request, r := p.someRequest(session), p.someReply()
	return fmt.Sprintf("Put(%d, %d, %v)", session, request, r), p.c.Put(session, request, r), p.m.put(session, request, r)
}

func (p *pair) wantAlike(t *testing.T, what string) {
	t.Helper()
	wantTable(t, what, p.c, bySession(p.m.list))
	for range 5 {
		session := p.someSession()
		request := p.someRequest(session)
		r, said := p.m.ask(session, request)
		wantAsk(t, what, p.c, session, request, r, said)
		if p.c.Last(session) != p.m.last(session) {
			t.Errorf("%s: Last(%d) is %d, want %d", what, session, p.c.Last(session), p.m.last(session))
		}
	}
}

func runAtRandom(t *testing.T, seed uint64, steps int) {
	t.Helper()
	s := source(seed)
	p := &pair{&s, newOne(t), &model{}}
	for i := range steps {
		step, got, want := p.step()
		what := fmt.Sprintf("seed %d, step %d: %s", seed, i, step)
		if got != want {
			t.Fatalf("%s: error %d, want %d", what, got, want)
		}
		p.wantAlike(t, what)
		if t.Failed() {
			t.FailNow()
		}
	}
}

func TestTablesAtRandom(t *testing.T) {
	for seed := range uint64(300) {
		runAtRandom(t, seed, 100)
	}
}

func FuzzTable(f *testing.F) {
	for seed := range uint64(10) {
		f.Add(seed)
	}
	f.Fuzz(func(t *testing.T, seed uint64) { runAtRandom(t, seed, 200) })
}
