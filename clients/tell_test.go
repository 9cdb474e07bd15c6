package clients_test

import (
	"iter"
	"slices"
	"testing"

	"orchard/api"
	"orchard/clients"
)

// P15.3: Rows, Len, Clone.

// taken are the first n that an iterator tells, which is left then.
func taken(all iter.Seq[api.Row], n int) []api.Row {
	var l []api.Row
	if n == 0 {
		return nil
	}
	for x := range all {
		l = append(l, x)
		if len(l) == n {
			break
		}
	}
	return l
}

func TestRowsAreLeftAndDoneAgain(t *testing.T) {
	for _, rows := range tables() {
		c := made(t, rows...)
		all := c.Rows()
		for n := range len(rows) + 1 {
			wantRows(t, "left in their midst", taken(all, n), rows[:n])
			wantRows(t, "done again", slices.Collect(all), rows)
			wantRows(t, "asked again", slices.Collect(c.Rows()), rows)
		}
		wantTable(t, "told", c, rows)
	}
}

// TestRowsWithinRows: one iterator is gone through within itself.
func TestRowsWithinRows(t *testing.T) {
	all := made(t, several()...).Rows()
	var told []api.Row
	for x := range all {
		told = append(told, x)
		wantRows(t, "within", slices.Collect(all), several())
	}
	wantRows(t, "around", told, several())
}

// TestRowsRise: of sessions that came in any order, by Put and by From.
func TestRowsRise(t *testing.T) {
	for seed := range uint64(100) {
		s := source(seed)
		var rows []api.Row
		for i := range 1 + s.below(most) {
			rows = append(rows, row(int64(i*i*i+1), 1, named(int64(i))))
		}
		c := newOne(t)
		for _, x := range shuffled(&s, rows) {
			wantPut(t, "in any order", c, x.Session, x.Request, x.Reply)
		}
		wantTable(t, "by Put", c, rows)
		wantTable(t, "by From", made(t, shuffled(&s, rows)...), rows)
	}
}

// TestLen: sessions count once, however many of their requests were put.
func TestLen(t *testing.T) {
	c := newOne(t)
	for i := range int64(most) {
		if c.Len() != int(i) {
			t.Errorf("Len: %d, want %d", c.Len(), i)
		}
		for request := range int64(3) {
			wantPut(t, "one more", c, most-i, request+1, named(request))
			wantNoPut(t, "it again", c, most-i, request+1, api.ErrTwice)
		}
	}
	if c.Len() != most {
		t.Errorf("Len: %d, want %d", c.Len(), most)
	}
	for n, rows := range tables() {
		if got := made(t, rows...).Len(); got != len(rows) {
			t.Errorf("Len of the table %d: %d, want %d", n, got, len(rows))
		}
	}
}

func TestClone(t *testing.T) {
	for _, rows := range tables() {
		c := made(t, rows...)
		if c.Clone() == c || c.Clone() == c.Clone() {
			t.Error("a clone is the same table")
		}
		wantTable(t, "Clone", c.Clone(), rows)
		wantTable(t, "cloned", c, rows)
		wantTable(t, "Clone of a Clone", c.Clone().Clone(), rows)
		wantSame(t, "Clone", c.Clone(), c)
	}
}

// putAll puts each session's next request, and a session that is new if there is room; it answers the rows of then.
func putAll(t *testing.T, c *clients.Table, r api.Reply) []api.Row {
	t.Helper()
	rows := look(t, c)
	for i, x := range rows {
		if x.Request < latest {
			rows[i] = row(x.Session, x.Request+1, r)
			wantPut(t, "the next", c, x.Session, x.Request+1, r)
		}
	}
	if len(rows) < most {
		wantPut(t, "a new one", c, r.Node, 1, r)
		rows = bySession(append(rows, row(r.Node, 1, r)))
	}
	wantTable(t, "put", c, rows)
	return rows
}

// TestClonesGoTheirOwnWay: whichever of both is changed, the other one is as it was.
func TestClonesGoTheirOwnWay(t *testing.T) {
	for _, rows := range tables() {
		c := made(t, rows...)
		d := c.Clone()
		cRows := putAll(t, c, named(3000))
		wantTable(t, "the clone of what has changed", d, rows)
		e := d.Clone()
		dRows := putAll(t, d, named(4000))
		wantTable(t, "what the changed one was cloned from", c, cRows)
		wantTable(t, "a clone of the clone", e, rows)
		putAll(t, e, named(5000))
		wantTable(t, "the first", c, cRows)
		wantTable(t, "the clone", d, dRows)
	}
}

// TestClonesHaveRoomOfTheirOwn: one that is full does not fill the other one.
func TestClonesHaveRoomOfTheirOwn(t *testing.T) {
	c := made(t, full()[:most-1]...)
	d := c.Clone()
	wantPut(t, "the last", c, 1000, 1, named(1))
	wantNoPut(t, "no room", c, 1001, 1, api.ErrFull)
	wantPut(t, "the last of the clone", d, 1001, 1, named(2))
	wantNoPut(t, "no room in the clone", d, 1000, 1, api.ErrFull)
}
