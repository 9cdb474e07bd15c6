package wal_test

import (
	"bytes"
	"slices"
	"strings"
	"testing"
	"time"

	"orchard/api"
	"orchard/wal"
)

// R2: the error that the chapter names first, zero values beside it, nothing changed (most of it stands in the tests of the calls); R3: nothing is shared; R5: logs that no call made; R6: the same calls answer the same; THE BOUND.

func TestLogsThatNoCallMade(t *testing.T) {
	for _, l := range []*wal.Log{nil, {}} {
		for range 2 {
			wantErr(t, "Append of none", l.Append(), api.ErrMade)
			wantErr(t, "Append", l.Append(list("a")...), api.ErrMade)
			wantErr(t, "Append of an empty record", l.Append(list("a", "")...), api.ErrMade)
			wantErr(t, "Append of a long record", l.Append(make([]byte, longest+1)), api.ErrMade)
			wantErr(t, "Sync", l.Sync(), api.ErrMade)
			for _, before := range []int64{-1, 0, 1, highest} {
				wantErr(t, "Cut", l.Cut(before), api.ErrMade)
			}
			records := l.Records()
			if records == nil {
				t.Fatal("there is no iterator of the records")
			}
			for n, b := range records {
				t.Errorf("a log that no call made has %d: %q", n, b)
			}
			wantTold(t, "a log that no call made", l, told{})
		}
	}
}

// TestFirstErrors: where several errors apply, the one that the chapter names first.
func TestFirstErrors(t *testing.T) {
	d := laid(t, safe(seg(highest), framed("a")))
	l := opened(t, d)
	wantErr(t, "ErrRecord ahead of ErrLong", l.Append(list("b", "")...), api.ErrRecord)
	d.Crash(0)
	wantErr(t, "ErrRecord ahead of ErrDown", l.Append(list("b", "")...), api.ErrRecord)
	wantErr(t, "ErrLong ahead of ErrDown", l.Append(list("b")...), api.ErrLong)
	d.Restart()
	d = laid(t, safe(seg(highest-1), framed("a")))
	l = opened(t, d)
	d.Crash(0)
	wantErr(t, "ErrDown", l.Append(list("b")...), api.ErrDown)
	wantErr(t, "ErrSpoilt ahead of ErrRecord", l.Append(list("")...), api.ErrSpoilt)
	wantErr(t, "ErrSpoilt ahead of ErrLong", l.Append(list("b", "c")...), api.ErrSpoilt)
	wantErr(t, "ErrSpoilt ahead of ErrDown", l.Append(list("b")...), api.ErrSpoilt)
	wantErr(t, "ErrSpoilt ahead of ErrDown", l.Sync(), api.ErrSpoilt)
}

func TestRecordsHandedInAreNotKept(t *testing.T) {
	d, l := fresh(t)
	all := []byte("hello, and more")
	records := [][]byte{all[:5], []byte("two"), all[7:10]}
	wantErr(t, "Append", l.Append(records...), api.OK)
	clear(all)
	clear(records[1])
	records[0], records[1], records[2] = nil, nil, nil
	wantTold(t, "written to", l, told{0, 3, 0, 1, []string{"hello", "two", "and"}})
	wantFiles(t, "written to", d, plain{seg(0), framed("hello", "two", "and"), 0})
	wantErr(t, "Sync", l.Sync(), api.OK)
	wantReopened(t, "written to", d, l)
}

func TestRecordsHandedInAreNotChanged(t *testing.T) {
	d, l := fresh(t)
	all := []byte("hello, and more")
	records := [][]byte{all[:5], all[:5], all[7:10]}
	wantErr(t, "Append", l.Append(records...), api.OK)
	wantErr(t, "Append", l.Append(list("XXXX", "YYYY")...), api.OK)
	for _, b := range l.Records() {
		clear(b[:cap(b)])
	}
	wantErr(t, "Sync", l.Sync(), api.OK)
	wantErr(t, "Crash", d.Crash(0), api.OK)
	if string(all) != "hello, and more" || string(records[0]) != "hello" || string(records[1]) != "hello" || string(records[2]) != "and" || len(records) != 3 {
		t.Errorf("what was handed in is now %q, %q", all, records)
	}
}

func TestRecordsAnsweredAreNobodyElses(t *testing.T) {
	for _, again := range []bool{false, true} {
		d, l := fresh(t)
		wantAppend(t, "three", l, "one", "two", "three")
		if again {
			l = opened(t, d)
		}
		before, files := tell(t, l), look(t, d)
		records := l.Records()
		var kept [][]byte
		for _, b := range records {
			kept = append(kept, b)
		}
		for _, b := range records {
			clear(b[:cap(b)])
			_ = append(b, "more"...)
		}
		for _, b := range l.Records() {
			clear(b[:cap(b)])
		}
		if string(bytes.Join(kept, []byte(","))) != "one,two,three" {
			t.Errorf("two ranges share their bytes: %q", kept)
		}
		wantTold(t, "written to", l, before)
		wantFace(t, "written to", d, files)
		if got := collect(l); !slices.Equal(got, before.records) {
			t.Errorf("written to, they are %q", got)
		}
	}
}

func collect(l *wal.Log) []string {
	var all []string
	for _, b := range l.Records() {
		all = append(all, string(b))
	}
	return all
}

func TestRecordsOfTheMoment(t *testing.T) {
	d, l := lastly(t)
	records := l.Records()
	none := opened(t, made(t, 10)).Records()
	wantAppend(t, "one", l, "six")
	wantErr(t, "Cut", l.Cut(5), api.OK)
	wantAppend(t, "more", l, filling(1024, "7"), "eight")
	d.Crash(0)
	for range 2 {
		var got []string
		for n, b := range records {
			if n != int64(len(got)) {
				t.Errorf("behind %d records comes the number %d", len(got), n)
			}
			got = append(got, string(b))
		}
		if !slices.Equal(got, lastlyRecords()) {
			t.Errorf("the records of before are %d: %.30q", len(got), got)
		}
	}
	for range none {
		t.Error("there was nothing")
	}
	wantTold(t, "asked anew", l, told{5, 9, 0, 2, []string{"five", "six", filling(1024, "7"), "eight"}})
}

func TestRecordsWhileTheLogIsChanged(t *testing.T) {
	d, l := lastly(t)
	var got []string
	for n, b := range l.Records() {
		if n != int64(len(got)) {
			t.Errorf("behind %d records comes the number %d", len(got), n)
		}
		got = append(got, string(b))
		clear(b)
		wantAppend(t, "one", l, "more", filling(1024, "m"))
		wantErr(t, "Cut", l.Cut(l.Next()), api.OK)
	}
	if !slices.Equal(got, lastlyRecords()) {
		t.Errorf("told are %d: %.30q", len(got), got)
	}
	wantTold(t, "changed in the midst", l, told{16, 18, 0, 1, []string{"more", filling(1024, "m")}})
	wantReopened(t, "changed in the midst", d, l)
}

func TestRecordsThatAreLeft(t *testing.T) {
	_, l := lastly(t)
	records := l.Records()
	for many := range 7 {
		var got []int64
		for n := range records {
			if len(got) == many {
				break
			}
			got = append(got, n)
		}
		if want := []int64{0, 1, 2, 3, 4, 5}[:many]; !slices.Equal(got, want) {
			t.Errorf("left behind %d: %d, want %d", many, got, want)
		}
	}
	pairs := 0
	for x := range records {
		for y := range records {
			if y > x {
				break
			}
			pairs++
		}
	}
	if pairs != 21 {
		t.Error("one within another:", pairs)
	}
}

// TestTwoLogsOfOneDisk: what one is told by is its own.
func TestTwoLogsOfOneDisk(t *testing.T) {
	d, l := fresh(t)
	wantAppend(t, "two", l, "one", "two")
	m := opened(t, d)
	wantAppend(t, "one", m, "three")
	wantTold(t, "the first one", l, told{0, 2, 0, 1, []string{"one", "two"}})
	wantTold(t, "the second one", m, told{0, 3, 2, 1, []string{"one", "two", "three"}})
}

// R4: nil and empty lists are the same.
func TestNilAndEmptyLists(t *testing.T) {
	_, l := fresh(t)
	wantErr(t, "a nil record", l.Append(nil, nil), api.ErrRecord)
	wantErr(t, "an empty record", l.Append([]byte{}), api.ErrRecord)
	var none [][]byte
	wantErr(t, "a nil list", l.Append(none...), api.OK)
	wantErr(t, "an empty list", l.Append([][]byte{}...), api.OK)
	wantTold(t, "nothing", l, told{})
}

func TestSameCallsAnswerTheSame(t *testing.T) {
	run := func() (face, told) {
		s := source(5)
		d, l := fresh(t)
		for range 200 {
			l.Append(list(s.text(1+s.below(300)), s.text(1+s.below(300)))...)
			if s.below(4) == 0 {
				l.Sync()
			}
			if s.below(20) == 0 {
				l.Cut(l.First() + int64(s.below(20)))
			}
			if s.below(20) == 0 {
				d.Crash(s.below(200))
				d.Restart()
				l = opened(t, d)
			}
		}
		return look(t, d), tell(t, l)
	}
	x, y := run()
	for range 5 {
		if v, w := run(); !v.same(x) || !w.same(y) {
			t.Fatal("the same calls answer otherwise")
		}
	}
}

// THE BOUND: calls with as much as a disk's files may hold; one that is not near-linear would take many times as long.

const longTime = 20 * time.Second

func wantSoon(t *testing.T, what string, call func()) {
	t.Helper()
	begun := time.Now()
	call()
	if took := time.Since(begun); took > longTime {
		t.Errorf("%s took %v", what, took)
	}
}

func TestManyRecords(t *testing.T) {
	const many = 170_000
	d, l := fresh(t)
	records := make([][]byte, many)
	for i := range records {
		records[i] = []byte{byte(i)}
	}
	wantSoon(t, "Append of many", func() { wantErr(t, "Append of many", l.Append(records...), api.OK) })
	wantSoon(t, "Open, Records and Sync of many", func() {
		l = opened(t, d)
		wantErr(t, "Sync", l.Sync(), api.OK)
		if got := len(tell(t, l).records); got != many {
			t.Error("there are", got)
		}
	})
	wantSoon(t, "Cut of many", func() { wantErr(t, "Cut", l.Cut(many), api.OK) })
	wantSoon(t, "Append of many, one by one", func() {
		for _, r := range records {
			wantErr(t, "Append", l.Append(r), api.OK)
			l.Records()
			wantErr(t, "Sync", l.Sync(), api.OK)
			wantErr(t, "Cut", l.Cut(l.Next()), api.OK)
		}
	})
	if l.Next() != 2*many || l.Segments() != 1 {
		t.Error("next", l.Next(), "segments", l.Segments())
	}
}

// TestLongTornSegment: one segment with all bytes, the last one of which is missing.
func TestLongTornSegment(t *testing.T) {
	s := source(3)
	all := strings.Repeat(framed(s.text(longest), "a"), 100)
	d := laid(t, plain{seg(0), all[:len(all)-1], 0})
	wantErr(t, "Append of what fills the room", d.Append("other", make([]byte, d.Room()-2*d.Used())), api.OK)
	wantSoon(t, "Open of a long segment", func() {
		if l := opened(t, d); l.Next() != 199 {
			t.Error("next is", l.Next())
		}
	})
}
