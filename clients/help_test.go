package clients_test

import (
	"cmp"
	"math"
	"slices"
	"testing"

	"orchard/api"
	"orchard/clients"
)

// The document's numbers, told anew.
const (
	latest = 1 << 40 // a session, a request
	most   = 64      // sessions of a table

	cliNew  = 1
	cliSame = 2
	cliOld  = 3
	cliGap  = 4
	cliFull = 5
	cliBad  = 6
)

// source is a sequence that is the same in each run.
type source uint64

func (s *source) next() uint64 {
	*s = *s*6364136223846793005 + 1442695040888963407
	return uint64(*s >> 33)
}

func (s *source) below(n int) int { return int(s.next() % uint64(n)) }

func shuffled[T any](s *source, l []T) []T {
	l = slices.Clone(l)
	for i := range l {
		j := i + s.below(len(l)-i)
		l[i], l[j] = l[j], l[i]
	}
	return l
}

// numbers are such as may be sessions and requests.
func numbers() []int64 { return []int64{1, 2, 3, 7, 64, 65, 1 << 33, latest - 1, latest} }

// noNumbers are such as may be neither.
func noNumbers() []int64 {
	return []int64{-1, 0, latest + 1, latest + 2, -latest, math.MinInt64, math.MaxInt64}
}

func allNumbers() []int64 { return append(numbers(), noNumbers()...) }

// replies are without and with each field, and such as no site would give: a table looks at none of them.
func replies() []api.Reply {
	return []api.Reply{
		{},
		{Err: api.ErrFull},
		{Stamp: api.Stamp{Time: 1}},
		{Stamp: api.Stamp{Site: 7}},
		{Node: 24},
		{Err: api.ErrTwice, Stamp: api.Stamp{Time: latest, Site: 3}, Node: 1 << 43},
		{Err: -5, Stamp: api.Stamp{Time: math.MinInt64, Site: -9}, Node: math.MaxInt64},
	}
}

// named is a reply with every field set, told from others by its number.
func named(n int64) api.Reply {
	return api.Reply{Err: api.Errno(n + 1), Stamp: api.Stamp{Time: n + 2, Site: int(n + 3)}, Node: n + 4}
}

func row(session, request int64, r api.Reply) api.Row {
	return api.Row{Session: session, Request: request, Reply: r}
}

func bySession(rows []api.Row) []api.Row {
	rows = slices.Clone(rows)
	slices.SortStableFunc(rows, func(x, y api.Row) int { return cmp.Compare(x.Session, y.Session) })
	return rows
}

// several are rows, by session, with some at the edges.
func several() []api.Row {
	return []api.Row{
		row(1, 1, api.Reply{}), row(2, latest, named(2)), row(7, 3, named(7)), row(8, 2, replies()[6]),
		row(1<<33, 1<<33, named(9)), row(latest-1, latest-1, named(10)), row(latest, 1, named(11)),
	}
}

// full are as many rows as there may be, by session.
func full() []api.Row {
	var l []api.Row
	for i := range int64(most) {
		l = append(l, row(3*i+5, i%4+1, named(i)))
	}
	l[0].Session, l[most-1].Session = 1, latest
	return l
}

// tables are rows of which there may be a table, by session.
func tables() [][]api.Row {
	return [][]api.Row{nil, {row(7, 1, named(1))}, several(), full()[:most-1], full()}
}

func wantErr(t *testing.T, what string, got, want api.Errno) {
	t.Helper()
	if got != want {
		t.Errorf("%s: error %d, want %d", what, got, want)
	}
}

func wantRows(t *testing.T, what string, got, want []api.Row) {
	t.Helper()
	if !slices.Equal(got, want) {
		t.Errorf("%s: the rows are %v, want %v", what, got, want)
	}
}

// look sees a table by all calls that tell of it.
func look(t *testing.T, c *clients.Table) []api.Row {
	t.Helper()
	rows := slices.Collect(c.Rows())
	if c.Len() != len(rows) {
		t.Errorf("Len is %d, and Rows tells %d", c.Len(), len(rows))
	}
	for _, x := range rows {
		if c.Last(x.Session) != x.Request {
			t.Errorf("Last(%d) is %d, and Rows tells %d", x.Session, c.Last(x.Session), x.Request)
		}
		if r, said := c.Ask(x.Session, x.Request); r != x.Reply || said != cliSame {
			t.Errorf("Ask(%d, %d): %v, %d, and Rows tells %v", x.Session, x.Request, r, said, x.Reply)
		}
	}
	return rows
}

func wantTable(t *testing.T, what string, c *clients.Table, want []api.Row) {
	t.Helper()
	wantRows(t, what, look(t, c), want)
}

func newOne(t *testing.T) *clients.Table {
	t.Helper()
	c := clients.New()
	if c == nil {
		t.Fatal("New answers nil")
	}
	return c
}

// made is a table of rows.
func made(t *testing.T, rows ...api.Row) *clients.Table {
	t.Helper()
	c, err := clients.From(rows...)
	if c == nil || err != api.OK {
		t.Fatalf("From of %v: %v, error %d", rows, c, err)
	}
	return c
}

func wantNoFrom(t *testing.T, what string, rows []api.Row, want api.Errno) {
	t.Helper()
	c, err := clients.From(rows...)
	if c != nil || err != want {
		t.Errorf("From of %d rows, %s: %v, error %d, want none and %d", len(rows), what, c, err, want)
	}
}

// wantAsk: what it answers, as often as it is asked.
func wantAsk(t *testing.T, what string, c *clients.Table, session, request int64, want api.Reply, due int) {
	t.Helper()
	for range 2 {
		if r, said := c.Ask(session, request); r != want || said != due {
			t.Errorf("Ask(%d, %d), %s: %v, %d, want %v, %d", session, request, what, r, said, want, due)
		}
	}
}

func wantPut(t *testing.T, what string, c *clients.Table, session, request int64, r api.Reply) {
	t.Helper()
	wantErr(t, "Put, "+what, c.Put(session, request, r), api.OK)
	wantAsk(t, what, c, session, request, r, cliSame)
	if c.Last(session) != request {
		t.Errorf("Put(%d, %d), %s: Last is %d", session, request, what, c.Last(session))
	}
}

// wantNoPut: it answers an error, and changes nothing.
func wantNoPut(t *testing.T, what string, c *clients.Table, session, request int64, want api.Errno) {
	t.Helper()
	before := look(t, c)
	wantErr(t, "Put, "+what, c.Put(session, request, named(99)), want)
	wantTable(t, "Put, "+what, c, before)
}

// wantSame: two tables answer the same, whatever is asked of them.
func wantSame(t *testing.T, what string, x, y *clients.Table) {
	t.Helper()
	rows := look(t, x)
	wantTable(t, what, y, rows)
	sessions := append(allNumbers(), 1000)
	for _, one := range rows {
		sessions = append(sessions, one.Session)
	}
	for _, session := range sessions {
		last := x.Last(session)
		if y.Last(session) != last {
			t.Errorf("%s: Last(%d) is %d and %d", what, session, last, y.Last(session))
		}
		for _, request := range append(allNumbers(), last-1, last, last+1, last+2) {
			r, said := x.Ask(session, request)
			wantAsk(t, what, y, session, request, r, said)
		}
	}
}
