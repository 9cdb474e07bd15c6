package clients_test

import (
	"fmt"
	"reflect"
	"slices"
	"testing"
	"time"

	"orchard/api"
	"orchard/clients"
)

// R2: errors' order, and that an error changes nothing, stands in the tests of the calls; R4 in that of From. Here: all arguments, what no call made, what is shared, the same again, and THE BOUND.

// R1.

func TestAllArguments(t *testing.T) {
	for _, c := range []*clients.Table{nil, {}, newOne(t), made(t, several()...), made(t, full()...)} {
		for _, session := range allNumbers() {
			c.Last(session)
			for _, request := range allNumbers() {
				c.Ask(session, request)
				for _, r := range replies() {
					c.Put(session, request, r)
					if c != nil && c.Len() > most {
						t.Fatalf("it has %d rows", c.Len())
					}
				}
			}
		}
	}
}

// R5: a table that no call made.

func TestTablesThatNoCallMade(t *testing.T) {
	for _, c := range []*clients.Table{nil, {}} {
		for _, session := range allNumbers() {
			for _, request := range allNumbers() {
				wantAsk(t, "of a table that no call made", c, session, request, api.Reply{}, 0)
				wantErr(t, "Put", c.Put(session, request, named(1)), api.ErrMade)
			}
			if c.Last(session) != 0 {
				t.Errorf("Last(%d): %d", session, c.Last(session))
			}
		}
		all := c.Rows()
		if all == nil {
			t.Fatal("there is no iterator")
		}
		for range all {
			t.Error("its iterator tells something")
		}
		if c.Len() != 0 || c.Clone() != nil {
			t.Error("it answers", c.Len(), c.Clone())
		}
		if c != nil && !reflect.ValueOf(*c).IsZero() {
			t.Error("a zero table has become another one")
		}
	}
}

// R3: what is handed in or answered, and then written to.

func spoil(rows []api.Row) {
	rows = rows[:cap(rows)]
	for i := range rows {
		rows[i] = row(-1, -1, named(-1))
	}
}

func TestWhatIsHandedInStaysAsItIs(t *testing.T) {
	for _, rows := range tables() {
		backwards := slices.Clone(rows)
		slices.Reverse(backwards)
		handed := slices.Grow(slices.Clone(backwards), 5)
		putAll(t, made(t, handed...), named(2000))
		wantRows(t, "what was handed in", handed, backwards)
		for _, x := range handed[len(handed):cap(handed)] {
			if x != (api.Row{}) {
				t.Error("behind what was handed in stands", x)
			}
		}
	}
}

func TestWhatIsHandedInIsNotKept(t *testing.T) {
	for _, rows := range tables() {
		handed := slices.Clone(rows)
		c := made(t, handed...)
		all := c.Rows()
		spoil(handed)
		wantTable(t, "the list of From is written to", c, rows)
		wantRows(t, "the list of From is written to", slices.Collect(all), rows)
	}
}

func TestWhatIsAnsweredIsNobodysElse(t *testing.T) {
	for _, rows := range tables() {
		c := made(t, rows...)
		all := c.Rows()
		for range 3 {
			spoil(slices.Collect(all))
			for x := range all {
				x.Reply = named(-1)
			}
			wantRows(t, "what was told is written to", slices.Collect(all), rows)
			wantTable(t, "what was told is written to", c, rows)
		}
	}
}

// TestIteratorsTellWhatWasThere: whatever is put behind the asking, even in the midst of the telling.
func TestIteratorsTellWhatWasThere(t *testing.T) {
	for _, rows := range tables() {
		c := made(t, rows...)
		all := c.Rows()
		behind := putAll(t, c, named(2000))
		wantRows(t, "put behind the asking", slices.Collect(all), rows)
		wantRows(t, "put behind the asking, again", slices.Collect(all), rows)
		wantRows(t, "asked anew", slices.Collect(c.Rows()), behind)
		for stop := range rows {
			d := made(t, rows...)
			told := 0
			midst := d.Rows()
			for x := range midst {
				if told == stop {
					putAll(t, d, named(2000))
				}
				if x != rows[told] {
					t.Errorf("put in the midst, at %d: told as number %d is %v", stop, told, x)
				}
				told++
			}
			if told != len(rows) {
				t.Errorf("put in the midst, at %d: %d rows are told of %d", stop, told, len(rows))
			}
			wantRows(t, "put in the midst, again", slices.Collect(midst), rows)
		}
	}
}

// R6.

func TestSameCallsAnswerTheSame(t *testing.T) {
	run := func() []string {
		s := source(7)
		p := &pair{&s, newOne(t), &model{}}
		var answers []string
		for range 300 {
			what, err, _ := p.step()
			answers = append(answers, fmt.Sprint(what, err, look(t, p.c)))
		}
		return answers
	}
	answers := run()
	for range 5 {
		if !slices.Equal(run(), answers) {
			t.Fatal("the same calls answer otherwise")
		}
	}
}

// THE BOUND: one that is not near-linear would take many times as long.

const longTime = 20 * time.Second

func wantSoon(t *testing.T, what string, call func()) {
	t.Helper()
	begun := time.Now()
	call()
	if took := time.Since(begun); took > longTime {
		t.Errorf("%s took %v", what, took)
	}
}

func TestManyRows(t *testing.T) {
	const many = 2_000_000
	rows := make([]api.Row, many)
	for i := range rows {
		rows[i] = row(int64(many-i), 1, named(int64(i)))
	}
	wantSoon(t, "From of too many", func() { wantNoFrom(t, "too many", rows, api.ErrFull) })
	wantSoon(t, "From of one row too often", func() { wantNoFrom(t, "too often", slices.Repeat(rows[:1], many), api.ErrTwice) })
}

func TestManyRequests(t *testing.T) {
	const many = 20_000
	c := made(t, full()...)
	wantSoon(t, "many requests of a full table", func() {
		for i := range int64(many) {
			for _, session := range []int64{1, 8, latest} {
				wantErr(t, "Put", c.Put(session, c.Last(session)+1, named(i)), api.OK)
			}
			wantErr(t, "Put", c.Put(1000, 1, named(i)), api.ErrFull)
		}
	})
	wantSoon(t, "Clone and Rows of a full table", func() {
		for range many {
			told := 0
			for range c.Clone().Rows() {
				told++
			}
			if told != most {
				t.Fatalf("%d rows are told", told)
			}
		}
	})
}
