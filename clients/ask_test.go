package clients_test

import (
	"testing"

	"orchard/api"
	"orchard/clients"
)

// P15.2, and the numbers of its answers.

func TestNumbers(t *testing.T) {
	got := [...]int{api.CliNew, api.CliSame, api.CliOld, api.CliGap, api.CliFull, api.CliBad}
	if got != [...]int{cliNew, cliSame, cliOld, cliGap, cliFull, cliBad} {
		t.Error("CliNew to CliBad are", got)
	}
	if api.MaxSessions != most || api.MaxTime != latest {
		t.Error("MaxSessions and MaxTime are", api.MaxSessions, api.MaxTime)
	}
}

// near are the requests around a last one, and those at the edges, each of which may be.
func near(last int64) []int64 {
	l := numbers()
	for _, n := range []int64{last - 2, last - 1, last, last + 1, last + 2, last + 3} {
		if n >= 1 && n <= latest {
			l = append(l, n)
		}
	}
	return l
}

func TestAskWhatMayNotBe(t *testing.T) {
	for _, rows := range tables() {
		c := made(t, rows...)
		for _, bad := range noNumbers() {
			for _, other := range allNumbers() {
				wantAsk(t, "no session", c, bad, other, api.Reply{}, cliBad)
				wantAsk(t, "no request", c, other, bad, api.Reply{}, cliBad)
			}
			for _, x := range rows {
				wantAsk(t, "no request of a session that stands", c, x.Session, bad, api.Reply{}, cliBad)
			}
		}
		wantTable(t, "asked", c, rows)
	}
}

// TestAskOfNoRow: the first request alone is new.
func TestAskOfNoRow(t *testing.T) {
	for _, rows := range [][]api.Row{nil, {row(4, 1, named(1))}, {row(4, 9, named(1)), row(20, 1, named(2))}, full()[:most-1]} {
		c := made(t, rows...)
		for _, session := range []int64{2, 3, 1000, 1 << 33, latest - 1} {
			wantAsk(t, "the first", c, session, 1, api.Reply{}, cliNew)
			for _, request := range numbers()[1:] {
				wantAsk(t, "not the first", c, session, request, api.Reply{}, cliGap)
			}
		}
		wantTable(t, "asked", c, rows)
	}
}

// wantRowAsked: what a row is asked for, around its last request and at the edges.
func wantRowAsked(t *testing.T, c *clients.Table, x api.Row) {
	t.Helper()
	for _, request := range near(x.Request) {
		switch {
		case request == x.Request:
			wantAsk(t, "the last one", c, x.Session, request, x.Reply, cliSame)
		case request < x.Request:
			wantAsk(t, "one below", c, x.Session, request, api.Reply{}, cliOld)
		case request == x.Request+1:
			wantAsk(t, "one above", c, x.Session, request, api.Reply{}, cliNew)
		default:
			wantAsk(t, "further above", c, x.Session, request, api.Reply{}, cliGap)
		}
	}
}

func TestAskOfARow(t *testing.T) {
	for _, session := range numbers() {
		for _, last := range numbers() {
			for _, r := range replies() {
				x := row(session, last, r)
				wantRowAsked(t, made(t, x), x)
			}
		}
	}
}

// TestAskOfEachRow: of several, each by its own last request.
func TestAskOfEachRow(t *testing.T) {
	for _, rows := range tables() {
		c := made(t, rows...)
		for _, x := range rows {
			wantRowAsked(t, c, x)
		}
		wantTable(t, "asked", c, rows)
	}
}

// TestAskOfAFullTable: a session that stands goes on; another one's first request has no room, and its other ones are too far.
func TestAskOfAFullTable(t *testing.T) {
	c := made(t, full()...)
	for _, session := range []int64{2, 3, 1000, latest - 1} {
		wantAsk(t, "the first", c, session, 1, api.Reply{}, cliFull)
		for _, request := range numbers()[1:] {
			wantAsk(t, "not the first", c, session, request, api.Reply{}, cliGap)
		}
		for _, bad := range noNumbers() {
			wantAsk(t, "no request", c, session, bad, api.Reply{}, cliBad)
			wantAsk(t, "no session", c, bad, 1, api.Reply{}, cliBad)
		}
	}
	for _, x := range full() {
		wantRowAsked(t, c, x)
	}
	wantTable(t, "asked", c, full())
}

// TestAskOfTheFirst: of a session whose last request is 1, the first one is no new one.
func TestAskOfTheFirst(t *testing.T) {
	c := newOne(t)
	wantAsk(t, "of none", c, 7, 1, api.Reply{}, cliNew)
	wantAsk(t, "asked before", c, 7, 1, api.Reply{}, cliNew)
	wantPut(t, "the first", c, 7, 1, named(1))
	wantAsk(t, "the second", c, 7, 2, api.Reply{}, cliNew)
	wantPut(t, "the second", c, 7, 2, api.Reply{})
	wantAsk(t, "the first again", c, 7, 1, api.Reply{}, cliOld)
	wantAsk(t, "the second again", c, 7, 2, api.Reply{}, cliSame)
}
