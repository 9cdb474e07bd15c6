package stamp_test

import (
	"math"
	"slices"
	"strings"
	"testing"

	"orchard/api"
	"orchard/stamp"
)

// The document's numbers, told anew.
const (
	latest    = 1 << 40 // a time, a part of a vector
	sites     = 8
	text      = 255 // bytes of a name, a key, a value
	root      = 1
	trash     = 2
	leastNode = 24             // the node of 1.0
	mostNode  = 16 + 8<<40 + 7 // that of the last time's last site
	noNode    = math.MinInt64  // a number that is no node's, far below them
	farNode   = math.MaxInt64  // one far above them
)

// source is a sequence that is the same in each run.
type source uint64

func (s *source) next() uint64 {
	*s = *s*6364136223846793005 + 1442695040888963407
	return uint64(*s >> 33)
}

func (s *source) below(n int) int { return int(s.next() % uint64(n)) }

func oneOf[T any](s *source, l []T) T { return l[s.below(len(l))] }

func shuffled[T any](s *source, l []T) []T {
	l = slices.Clone(l)
	for i := range l {
		j := i + s.below(len(l)-i)
		l[i], l[j] = l[j], l[i]
	}
	return l
}

func at(time int64, site int) api.Stamp { return api.Stamp{Time: time, Site: site} }

// times and places are the edges of a stamp's fields, rising.
func times() []int64 {
	return []int64{math.MinInt64, math.MinInt64 + 1, -latest, -1, 0, 1, 2, 3, 1 << 31, 1 << 32, latest - 1, latest, latest + 1, math.MaxInt64 - 1, math.MaxInt64}
}

func places() []int {
	return []int{math.MinInt, -8, -1, 0, 1, 2, 6, 7, 8, 9, 1 << 32, math.MaxInt}
}

// rising are stamps, such as may be and such as may not, each above the one ahead of it.
func rising() []api.Stamp {
	var l []api.Stamp
	for _, time := range times() {
		for _, site := range places() {
			l = append(l, at(time, site))
		}
	}
	return l
}

// mayBe tells which of them may be.
func mayBe(s api.Stamp) bool {
	return s.Time > 0 && s.Time <= latest && slices.Contains([]int{0, 1, 2, 3, 4, 5, 6, 7}, s.Site)
}

// risingThatMayBe are stamps that may be, each above the one ahead of it.
func risingThatMayBe() []api.Stamp {
	var l []api.Stamp
	for _, time := range []int64{1, 2, 3, 4, 255, 256, 1 << 31, 1 << 32, 1<<32 + 1, latest - 1, latest} {
		for site := range sites {
			l = append(l, at(time, site))
		}
	}
	return l
}

// noNodes are numbers that are no stamp's.
func noNodes() []int64 {
	l := []int64{noNode, noNode + 1, noNode + 15, noNode + 16, noNode + 24, -latest, -25, -24, -16, -8, -1}
	for n := range int64(leastNode) {
		l = append(l, n)
	}
	return append(l, mostNode+1, mostNode+2, mostNode+8, mostNode+9, 1<<50, 1<<62, farNode-24, farNode-16, farNode-15, farNode-1, farNode)
}

func long(n int) string { return strings.Repeat("n", n) }

// parts are the edges of a vector's parts.
func parts() []int64 {
	return []int64{math.MinInt64, math.MinInt64 + 1, -latest, -1, 0, 1, 2, latest - 1, latest, latest + 1, math.MaxInt64 - 1, math.MaxInt64}
}

func (s *source) vector(l []int64) api.Vector {
	var v api.Vector
	for i := range v {
		v[i] = oneOf(s, l)
	}
	return v
}

func (s *source) vectors(n int, l []int64) []api.Vector {
	var out []api.Vector
	for range n {
		out = append(out, s.vector(l))
	}
	return out
}

func wantCheckOp(t *testing.T, what string, op api.Op, want api.Errno) {
	t.Helper()
	if got := stamp.CheckOp(op); got != want {
		if len(op.Name)+len(op.Key)+len(op.Value) > 1000 {
			op.Name, op.Key, op.Value = op.Name[:min(len(op.Name), 9)], op.Key[:min(len(op.Key), 9)], op.Value[:min(len(op.Value), 9)]
			what += " (texts cut)"
		}
		t.Errorf("%s: CheckOp of %#v: error %d, want %d", what, op, got, want)
	}
}

func wantOf(t *testing.T, node int64, want api.Stamp) {
	t.Helper()
	if s, is := stamp.Of(node); s != want || !is {
		t.Errorf("Of(%d): %v, %v, want %v", node, s, is, want)
	}
}

func wantNoStamp(t *testing.T, node int64) {
	t.Helper()
	if s, is := stamp.Of(node); s != (api.Stamp{}) || is {
		t.Errorf("Of(%d): %v, %v, want none", node, s, is)
	}
}

func wantVector(t *testing.T, what string, got, want api.Vector) {
	t.Helper()
	if got != want {
		t.Errorf("%s: %v, want %v", what, got, want)
	}
}
