package stamp_test

import (
	"math"
	"slices"
	"strings"
	"testing"
	"time"

	"orchard/api"
	"orchard/stamp"
)

// R1 to R4, R6 and THE BOUND of the document, as far as they speak of stamp; R5 says nothing of it, since it makes no objects. (That with an error nothing else is answered is asked beside each error, too.)

// TestAnyNumbers: R1, numbers far out of their range in each field, alone and all together.
func TestAnyNumbers(t *testing.T) {
	far := []int64{math.MinInt64, math.MinInt64 + 1, -1 << 32, 1 << 62, math.MaxInt64 - 1, math.MaxInt64}
	for _, n := range far {
		for _, op := range samples() {
			for _, wrong := range []api.Op{
				with(op, func(op *api.Op) { op.Stamp.Time = n }),
				with(op, func(op *api.Op) { op.Stamp.Site = int(n) }),
				with(op, func(op *api.Op) { op.Kind = int(n) }),
				with(op, func(op *api.Op) { op.Stamp.Time, op.Stamp.Site, op.Node, op.Parent = n, int(n), n, n }),
				with(op, func(op *api.Op) { op.Node, op.Parent = n, n }),
			} {
				wantCheckOp(t, "far out of range", wrong, api.ErrArg)
			}
		}
		for _, m := range far {
			s := at(n, int(m))
			if stamp.Check(s) || stamp.Node(s) != 0 || stamp.Greatest(s) != s || stamp.Compare(s, s) != 0 {
				t.Errorf("the stamp %v: %v, %d", s, stamp.Check(s), stamp.Node(s))
			}
		}
		if stamp.CheckVector(all(n)) || stamp.Total(all(n)) != n<<3 || !stamp.Above(all(n), all(n)) {
			t.Errorf("the vector of %d: %v, %d", n, stamp.CheckVector(all(n)), stamp.Total(all(n)))
		}
		wantThereAndBack(t, n)
	}
}

// TestTextsOfAnyBytes: R1, what is no UTF-8 is as good as what is.
func TestTextsOfAnyBytes(t *testing.T) {
	for c := range 256 {
		one := string([]byte{byte(c)})
		want := api.OK
		if one == "/" || one == "." {
			want = api.ErrArg
		}
		wantCheckOp(t, "a name of one byte", with(aMove(), func(op *api.Op) { op.Name = one }), want)
		wantCheckOp(t, "a key of one byte", with(anAttr(), func(op *api.Op) { op.Key = one }), api.OK)
		wantCheckOp(t, "a value of one byte", with(anAttr(), func(op *api.Op) { op.Value = one }), api.OK)
	}
}

// TestNoneIsZero: R2, what is answered beside false or of nothing is the zero value.
func TestNoneIsZero(t *testing.T) {
	for _, node := range noNodes() {
		wantNoStamp(t, node)
	}
	if stamp.Greatest() != (api.Stamp{}) || stamp.Join() != (api.Vector{}) || stamp.Meet() != (api.Vector{}) {
		t.Error("of nothing:", stamp.Greatest(), stamp.Join(), stamp.Meet())
	}
}

// TestListsAreNotWritten: R3, up to their capacities; what was answered does not change with them.
func TestListsAreNotWritten(t *testing.T) {
	s := source(11)
	vectors := s.vectors(30, parts())
	wantUnwritten(t, "Join", vectors, stamp.Join)
	wantUnwritten(t, "Meet", vectors, stamp.Meet)
	wantUnwritten(t, "Greatest", shuffled(&s, rising()), stamp.Greatest)
}

func wantUnwritten[T comparable](t *testing.T, what string, given []T, call func(l ...T) T) {
	t.Helper()
	for n := range len(given) + 1 {
		l := slices.Clone(given)
		answer := call(l[:n]...)
		if !slices.Equal(l, given) {
			t.Fatalf("%s of %d has written to its list", what, n)
		}
		clear(l)
		if want := call(given[:n]...); answer != want {
			t.Fatalf("%s of %d: %v behind a change of its list, want %v", what, n, answer, want)
		}
	}
}

// TestVectorsAreNotWritten: R3, an answer is nobody's else.
func TestVectorsAreNotWritten(t *testing.T) {
	a, b := api.Vector{1, 2, 3}, api.Vector{3, 2, 1}
	for range 2 {
		join, meet := stamp.Join(a, b), stamp.Meet(a, b)
		wantVector(t, "Join", join, api.Vector{3, 2, 3})
		wantVector(t, "Meet", meet, api.Vector{1, 2, 1})
		stamp.Above(a, b)
		stamp.CheckVector(a)
		stamp.Total(b)
		join[0], meet[0] = 9, 9
		wantVector(t, "the first one", a, api.Vector{1, 2, 3})
		wantVector(t, "the second one", b, api.Vector{3, 2, 1})
	}
}

// TestNilAndEmptyLists: R4.
func TestNilAndEmptyLists(t *testing.T) {
	var noStamps []api.Stamp
	var noVectors []api.Vector
	if stamp.Greatest(noStamps...) != stamp.Greatest([]api.Stamp{}...) || stamp.Greatest(noStamps...) != stamp.Greatest([]api.Stamp{at(3, 3)}[:0]...) {
		t.Error("Greatest of none")
	}
	if stamp.Join(noVectors...) != stamp.Join([]api.Vector{}...) || stamp.Join(noVectors...) != stamp.Join([]api.Vector{all(3)}[:0]...) {
		t.Error("Join of none")
	}
	if stamp.Meet(noVectors...) != stamp.Meet([]api.Vector{}...) || stamp.Meet(noVectors...) != stamp.Meet([]api.Vector{all(3)}[:0]...) {
		t.Error("Meet of none")
	}
}

// TestTheSameAgain: R6, and nothing is kept from call to call.
func TestTheSameAgain(t *testing.T) {
	run := func(between func(s *source)) []any {
		s, other := source(12), source(13)
		var answers []any
		for range 500 {
			op, v, w := s.op(), s.vector(parts()), s.vector(parts())
			between(&other)
			of, is := stamp.Of(op.Node)
			answers = append(answers, stamp.CheckOp(op), stamp.Node(op.Stamp), stamp.Check(op.Stamp), of, is, stamp.Join(v, w), stamp.Meet(v, w), stamp.Above(v, w), stamp.Total(v), stamp.CheckVector(w))
		}
		return answers
	}
	first := run(func(*source) {})
	second := run(func(s *source) {
		stamp.CheckOp(s.op())
		stamp.Of(s.node())
		stamp.Join(s.vectors(3, parts())...)
		stamp.Meet(s.vectors(3, parts())...)
		stamp.Greatest(someStamps(s, 3)...)
	})
	if !slices.Equal(first, second) {
		t.Error("the same calls answer otherwise")
	}
}

// THE BOUND: one that is not near-linear would take many times as long.

const longTime = 20 * time.Second

func wantSoon(t *testing.T, what string, call func()) {
	t.Helper()
	begun := time.Now()
	call()
	if took := time.Since(begun); took > longTime {
		t.Errorf("%s took %v", what, took)
	}
}

func TestLongLists(t *testing.T) {
	const many = 1_000_000
	stamps := make([]api.Stamp, many)
	vectors := make([]api.Vector, many)
	for i := range many {
		stamps[i] = at(int64(i+1), i%sites)
		vectors[i] = all(int64(i + 1))
	}
	wantSoon(t, "long lists", func() {
		if got := stamp.Greatest(stamps...); got != stamps[many-1] {
			t.Error("Greatest of many:", got)
		}
		wantVector(t, "Join of many", stamp.Join(vectors...), all(many))
		wantVector(t, "Meet of many", stamp.Meet(vectors...), all(1))
	})
}

func TestLongTexts(t *testing.T) {
	far := strings.Repeat("/.", 1<<25)
	wantSoon(t, "long texts", func() {
		wantCheckOp(t, "a long name", with(aMove(), func(op *api.Op) { op.Name = far }), api.ErrLong)
		wantCheckOp(t, "a long key where none is", with(aMake(), func(op *api.Op) { op.Key = far }), api.ErrArg)
		wantCheckOp(t, "a long key", with(anAttr(), func(op *api.Op) { op.Key = far }), api.ErrLong)
		wantCheckOp(t, "a long value", with(anAttr(), func(op *api.Op) { op.Value = far }), api.ErrLong)
		wantCheckOp(t, "a long name where none is", with(anAttr(), func(op *api.Op) { op.Name = far }), api.ErrArg)
	})
}
