package clients_test

import (
	"slices"
	"testing"

	"orchard/api"
)

// P15.3: Put and Last.

// TestPut: each reply at each request of a row, and of several sessions in turn; the other rows stay as they are.
func TestPut(t *testing.T) {
	for _, sessions := range [][]int64{{7}, {1, latest}, {latest, 1}, {5, 3, 4, latest - 1, 1 << 33}} {
		c := newOne(t)
		want := map[int64]api.Row{}
		for i, r := range replies() {
			for _, session := range sessions {
				request := int64(i + 1)
				wantAsk(t, "ahead of it", c, session, request, api.Reply{}, cliNew)
				wantPut(t, "the next", c, session, request, r)
				want[session] = row(session, request, r)
				wantTable(t, "the next", c, listed(want))
			}
		}
	}
}

func listed(rows map[int64]api.Row) []api.Row {
	var l []api.Row
	for _, x := range rows {
		l = append(l, x)
	}
	return bySession(l)
}

// TestPutTakesThePlace: of each reply by each other one.
func TestPutTakesThePlace(t *testing.T) {
	for _, first := range replies() {
		for _, second := range replies() {
			c := newOne(t)
			wantPut(t, "the first", c, 7, 1, first)
			wantPut(t, "the second", c, 7, 2, second)
			wantAsk(t, "what was there", c, 7, 1, api.Reply{}, cliOld)
			wantTable(t, "one in place of another", c, []api.Row{row(7, 2, second)})
		}
	}
}

// TestPutEachSessionsNext: of a table of rows.
func TestPutEachSessionsNext(t *testing.T) {
	for _, rows := range tables() {
		c := made(t, rows...)
		want := slices.Clone(rows)
		for i, x := range rows {
			if x.Request == latest {
				continue
			}
			want[i] = row(x.Session, x.Request+1, named(int64(1000+i)))
			wantPut(t, "the next", c, x.Session, x.Request+1, want[i].Reply)
			wantTable(t, "the next", c, want)
		}
	}
}

func TestPutOfWhatMayNotBe(t *testing.T) {
	for _, rows := range tables() {
		c := made(t, rows...)
		for _, bad := range noNumbers() {
			for _, other := range allNumbers() {
				wantNoPut(t, "no session", c, bad, other, api.ErrArg)
				wantNoPut(t, "no request", c, other, bad, api.ErrArg)
			}
			for _, x := range rows {
				wantNoPut(t, "no request of a session that stands", c, x.Session, bad, api.ErrArg)
			}
		}
	}
}

// TestPutOfARow: below, at, and two above its last request.
func TestPutOfARow(t *testing.T) {
	for _, last := range numbers() {
		c := made(t, row(7, last, named(1)), row(8, 2, named(2)))
		for _, request := range near(last) {
			switch {
			case request == last:
				wantNoPut(t, "the last one", c, 7, request, api.ErrTwice)
			case request < last:
				wantNoPut(t, "an old one", c, 7, request, api.ErrArg)
			case request > last+1:
				wantNoPut(t, "a gap", c, 7, request, api.ErrArg)
			}
		}
		wantTable(t, "refused", c, []api.Row{row(7, last, named(1)), row(8, 2, named(2))})
	}
}

// TestPutTheSameReplyTwice: it is twice whatever the reply is.
func TestPutTheSameReplyTwice(t *testing.T) {
	for _, r := range replies() {
		c := newOne(t)
		wantPut(t, "the first", c, 7, 1, r)
		for _, other := range replies() {
			wantErr(t, "the first again", c.Put(7, 1, other), api.ErrTwice)
			wantTable(t, "the first again", c, []api.Row{row(7, 1, r)})
		}
	}
}

// TestPutOfNoRow: a first request is 1.
func TestPutOfNoRow(t *testing.T) {
	for _, session := range numbers() {
		c := newOne(t)
		for _, request := range numbers()[1:] {
			wantNoPut(t, "not the first", c, session, request, api.ErrArg)
		}
		wantPut(t, "the first", c, session, 1, named(1))
	}
}

// TestPutTillItIsFull: as many sessions as there may be, and one more, which has no room for good.
func TestPutTillItIsFull(t *testing.T) {
	s := source(4)
	c := newOne(t)
	var want []api.Row
	for _, x := range shuffled(&s, full()) {
		wantPut(t, "a session more", c, x.Session, 1, x.Reply)
		want = bySession(append(want, row(x.Session, 1, x.Reply)))
		wantTable(t, "a session more", c, want)
	}
	for i, x := range want {
		wantNoPut(t, "no room", c, 1000, 1, api.ErrFull)
		wantNoPut(t, "no room, and not the first", c, 1000, 2, api.ErrArg)
		wantNoPut(t, "no room, and no session", c, 0, 1, api.ErrArg)
		wantNoPut(t, "full, and the last one again", c, x.Session, 1, api.ErrTwice)
		wantNoPut(t, "full, and a gap", c, x.Session, 3, api.ErrArg)
		want[i] = row(x.Session, 2, named(500))
		wantPut(t, "full, and a session that stands", c, x.Session, 2, named(500))
		wantTable(t, "full, and a session that stands", c, want)
	}
	restored := made(t, full()...)
	wantNoPut(t, "no room in a table of rows", restored, 1000, 1, api.ErrFull)
	almost := made(t, full()[1:]...)
	wantPut(t, "one more", almost, 1, 1, full()[0].Reply)
	wantTable(t, "one more", almost, full())
	wantNoPut(t, "two more", almost, 2, 1, api.ErrFull)
}

// TestPutAtTheEnd: the last request of all.
func TestPutAtTheEnd(t *testing.T) {
	c := made(t, row(latest, latest-2, named(1)))
	wantPut(t, "the last but one", c, latest, latest-1, named(2))
	wantPut(t, "the last", c, latest, latest, named(3))
	wantNoPut(t, "the last again", c, latest, latest, api.ErrTwice)
	wantNoPut(t, "above the last", c, latest, latest+1, api.ErrArg)
	wantNoPut(t, "the last but one", c, latest, latest-1, api.ErrArg)
	wantTable(t, "the last", c, []api.Row{row(latest, latest, named(3))})
}

func TestLast(t *testing.T) {
	for _, rows := range tables() {
		c := made(t, rows...)
		stands := map[int64]int64{}
		for _, x := range rows {
			stands[x.Session] = x.Request
		}
		for _, session := range append(allNumbers(), 4, 5, 6, 8, 9, 10, 11, 100) {
			if c.Last(session) != stands[session] {
				t.Errorf("Last(%d) of %v: %d", session, rows, c.Last(session))
			}
		}
		for _, x := range rows {
			if c.Last(x.Session) != x.Request {
				t.Errorf("Last(%d): %d, want %d", x.Session, c.Last(x.Session), x.Request)
			}
		}
		wantTable(t, "Last", c, rows)
	}
}
