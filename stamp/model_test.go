package stamp_test

import (
	"slices"
	"testing"

	"orchard/api"
	"orchard/stamp"
)

// CheckOp held against a plain telling of P11.2, clause by clause.

type clause struct {
	kinds []int
	wrong func(op api.Op) bool
	err   api.Errno
}

func isNodes(n int64) bool { return n >= leastNode && n <= mostNode }

func isNodesOrGiven(n int64) bool { return isNodes(n) || n == root || n == trash }

func clauses() []clause {
	making, moving, attributing := 1, 2, 3
	return []clause{
		{[]int{making}, func(op api.Op) bool { return op.Node != 16+op.Stamp.Time*8+int64(op.Stamp.Site) }, api.ErrArg},
		{[]int{making, moving}, func(op api.Op) bool { return !isNodesOrGiven(op.Parent) }, api.ErrArg},
		{[]int{making, moving}, func(op api.Op) bool { return len(op.Name) > text }, api.ErrLong},
		{[]int{making, moving}, func(op api.Op) bool {
			return slices.Contains([]string{"", ".", ".."}, op.Name) || slices.Contains([]byte(op.Name), '/')
		}, api.ErrArg},
		{[]int{making, moving}, func(op api.Op) bool { return len(op.Key)+len(op.Value) > 0 }, api.ErrArg},
		{[]int{moving}, func(op api.Op) bool { return !isNodes(op.Node) }, api.ErrArg},
		{[]int{attributing}, func(op api.Op) bool { return !isNodesOrGiven(op.Node) }, api.ErrArg},
		{[]int{attributing}, func(op api.Op) bool { return max(len(op.Key), len(op.Value)) > text }, api.ErrLong},
		{[]int{attributing}, func(op api.Op) bool { return len(op.Key) == 0 || op.Parent != 0 || len(op.Name) > 0 }, api.ErrArg},
	}
}

func toldOp(op api.Op) api.Errno {
	if !mayBe(op.Stamp) || op.Kind < 1 || op.Kind > 3 {
		return api.ErrArg
	}
	for _, c := range clauses() {
		if slices.Contains(c.kinds, op.Kind) && c.wrong(op) {
			return c.err
		}
	}
	return api.OK
}

func (s *source) node() int64 {
	switch s.below(8) {
	case 0:
		return oneOf(s, noNodes())
	case 1:
		return leastNode + int64(s.below(100))
	case 2:
		return mostNode - int64(s.below(100))
	case 3:
		return int64(s.below(40)) - 4
	}
	return oneOf(s, []int64{0, root, trash, leastNode, mostNode})
}

func (s *source) text() string {
	switch s.below(6) {
	case 0:
		return oneOf(s, goodNames())
	case 1:
		return oneOf(s, badNames())
	case 2:
		return oneOf(s, longNames())
	}
	return oneOf(s, []string{"", "a"})
}

// op is near to one that may be, with a field or several turned to anything.
func (s *source) op() api.Op {
	op := oneOf(s, samples())
	op.Stamp = oneOf(s, risingThatMayBe())
	if op.Kind == api.OpMake {
		op.Node = stamp.Node(op.Stamp)
	}
	for range s.below(4) {
		switch s.below(9) {
		case 0:
			op.Stamp = at(oneOf(s, times()), oneOf(s, places()))
		case 1:
			op.Kind = s.below(6) - 1
		case 2, 3:
			op.Node = s.node()
		case 4, 5:
			op.Parent = s.node()
		case 6:
			op.Name = s.text()
		case 7:
			op.Key = s.text()
		case 8:
			op.Value = s.text()
		}
	}
	return op
}

func TestAnyOperations(t *testing.T) {
	s := source(9)
	seen := map[api.Errno]int{}
	for range 60_000 {
		op := s.op()
		want := toldOp(op)
		seen[want]++
		wantCheckOp(t, "any", op, want)
		if t.Failed() {
			break
		}
	}
	for _, err := range []api.Errno{api.OK, api.ErrArg, api.ErrLong} {
		if seen[err] < 1000 {
			t.Error("the answer", err, "comes only", seen[err], "times")
		}
	}
}

func FuzzCheckOp(f *testing.F) {
	for _, op := range samples() {
		f.Add(op.Stamp.Time, op.Stamp.Site, op.Kind, op.Node, op.Parent, op.Name, op.Key, op.Value)
	}
	s := source(10)
	for range 100 {
		op := s.op()
		f.Add(op.Stamp.Time, op.Stamp.Site, op.Kind, op.Node, op.Parent, op.Name, op.Key, op.Value)
	}
	f.Fuzz(func(t *testing.T, time int64, site, kind int, node, parent int64, name, key, value string) {
		op := api.Op{Stamp: at(time, site), Kind: kind, Node: node, Parent: parent, Name: name, Key: key, Value: value}
		wantCheckOp(t, "any", op, toldOp(op))
		wantThereAndBack(t, node)
		wantThereAndBack(t, parent)
	})
}
