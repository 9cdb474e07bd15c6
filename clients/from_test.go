package clients_test

import (
	"slices"
	"testing"

	"orchard/api"
	"orchard/clients"
)

// P15.1: New and From.

func TestNew(t *testing.T) {
	wantTable(t, "New", newOne(t), nil)
	if newOne(t) == newOne(t) {
		t.Error("two calls of New answer one table")
	}
}

func TestFrom(t *testing.T) {
	for _, rows := range tables() {
		wantTable(t, "From", made(t, rows...), rows)
		backwards := slices.Clone(rows)
		slices.Reverse(backwards)
		wantTable(t, "From, backwards", made(t, backwards...), rows)
		s := source(len(rows))
		for range 20 {
			wantTable(t, "From, in any order", made(t, shuffled(&s, rows)...), rows)
		}
	}
}

// TestFromOfNone: R4.
func TestFromOfNone(t *testing.T) {
	for _, rows := range [][]api.Row{nil, {}, full()[:0]} {
		c := made(t, rows...)
		wantTable(t, "From of none", c, nil)
		wantPut(t, "the first", c, 7, 1, named(1))
		wantTable(t, "From of none, and one put", c, []api.Row{row(7, 1, named(1))})
	}
}

// TestFromOfAnyNumbers: each session with each request, each reply.
func TestFromOfAnyNumbers(t *testing.T) {
	for _, session := range numbers() {
		for _, request := range numbers() {
			for _, r := range replies() {
				one := row(session, request, r)
				wantTable(t, "one row", made(t, one), []api.Row{one})
			}
		}
	}
}

// TestFromOfNoNumbers: ErrArg, by the session, the request and both, at each place.
func TestFromOfNoNumbers(t *testing.T) {
	for _, bad := range noNumbers() {
		for at := range len(several()) + 1 {
			for _, good := range numbers() {
				wantNoFrom(t, "no session", slices.Insert(several(), at, row(bad, good, named(1))), api.ErrArg)
				wantNoFrom(t, "no request", slices.Insert(several(), at, row(good+1000, bad, named(1))), api.ErrArg)
			}
			for _, other := range noNumbers() {
				wantNoFrom(t, "neither", slices.Insert(several(), at, row(bad, other, named(1))), api.ErrArg)
			}
		}
		wantNoFrom(t, "no session alone", []api.Row{row(bad, 1, api.Reply{})}, api.ErrArg)
		wantNoFrom(t, "no request alone", []api.Row{row(1, bad, api.Reply{})}, api.ErrArg)
	}
	wantNoFrom(t, "the zero row", make([]api.Row, 1), api.ErrArg)
}

// TestFromTwice: each session again at each place behind it, with the same request and reply and with others.
func TestFromTwice(t *testing.T) {
	for i, first := range several() {
		for at := i + 1; at <= len(several()); at++ {
			for _, again := range []api.Row{first, row(first.Session, first.Request, named(50)), row(first.Session, 4, first.Reply), row(first.Session, 5, named(50))} {
				wantNoFrom(t, "twice", slices.Insert(several(), at, again), api.ErrTwice)
			}
		}
	}
	for _, first := range full()[:most-1] {
		wantNoFrom(t, "twice in place of the last", append(full()[:most-1], first), api.ErrTwice)
	}
}

func TestFromTooMany(t *testing.T) {
	wantTable(t, "as many as there may be", made(t, full()...), full())
	for _, session := range []int64{2, 100, latest - 1} {
		for _, request := range numbers() {
			more := row(session, request, named(1))
			wantNoFrom(t, "one more", append(full(), more), api.ErrFull)
			for at := range full() {
				wantNoFrom(t, "one more, anywhere", slices.Insert(full(), at, more), api.ErrFull)
			}
		}
	}
	wantNoFrom(t, "two more", append(full(), row(2, 1, named(1)), row(3, 1, named(1))), api.ErrFull)
}

// TestFromOfOneRowWithSeveralFaults: what may not be ahead of what stands there already, and that ahead of what is too much.
func TestFromOfOneRowWithSeveralFaults(t *testing.T) {
	for _, rows := range [][]api.Row{several(), full()} {
		for _, bad := range noNumbers() {
			wantNoFrom(t, "no session", append(slices.Clone(rows), row(bad, 1, named(1))), api.ErrArg)
			for _, first := range rows {
				wantNoFrom(t, "no request, and twice", append(slices.Clone(rows), row(first.Session, bad, named(1))), api.ErrArg)
			}
		}
	}
	for _, first := range full() {
		wantNoFrom(t, "twice, and too many", append(full(), first), api.ErrTwice)
		wantNoFrom(t, "twice, and too many", append(full(), row(first.Session, 9, named(1))), api.ErrTwice)
	}
}

// TestFromOfSeveralRowsWithFaults: the first row's fault is told, whatever stands behind it.
func TestFromOfSeveralRowsWithFaults(t *testing.T) {
	faults := []struct {
		row  api.Row
		want api.Errno
	}{
		{row(0, 1, named(1)), api.ErrArg},
		{row(200, 0, named(1)), api.ErrArg},
		{row(latest+1, latest+1, named(1)), api.ErrArg},
		{row(1, 1, named(1)), api.ErrTwice},
		{row(latest, 1, named(1)), api.ErrTwice},
		{row(200, 1, named(1)), api.ErrFull},
	}
	for _, first := range faults {
		for _, second := range faults {
			wantNoFrom(t, "two faults", append(full(), first.row, second.row), first.want)
			if first.want != api.ErrFull {
				wantNoFrom(t, "two faults, with a good row between", append(several(), first.row, row(300, 1, named(1)), second.row), first.want)
			}
		}
		for _, bad := range noNumbers() {
			wantNoFrom(t, "a fault ahead of all", append([]api.Row{row(bad, 1, named(1))}, append(full(), first.row)...), api.ErrArg)
		}
		wantNoFrom(t, "twice ahead of it", append([]api.Row{row(1, 1, named(1))}, append(full(), first.row)...), api.ErrTwice)
	}
}

// TestFromGoesOn: a table of rows goes on behind any last request.
func TestFromGoesOn(t *testing.T) {
	for _, last := range numbers() {
		c := made(t, row(7, last, named(1)), row(9, 1, named(2)))
		if last == latest {
			wantNoPut(t, "behind the last of all", c, 7, last+1, api.ErrArg)
			continue
		}
		wantPut(t, "the next", c, 7, last+1, named(3))
		wantTable(t, "the next", c, []api.Row{row(7, last+1, named(3)), row(9, 1, named(2))})
	}
}

// TestFromOfRows: what is made of a table's rows answers as the table does.
func TestFromOfRows(t *testing.T) {
	for _, rows := range tables() {
		c := made(t, rows...)
		again, err := clients.From(slices.Collect(c.Rows())...)
		wantErr(t, "From of Rows", err, api.OK)
		wantTable(t, "From of Rows", again, rows)
		wantSame(t, "From of Rows", again, c)
	}
}
