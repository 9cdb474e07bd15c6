package oplog

import (
	"slices"
	"strings"

	"orchard/api"
	"orchard/stamp"
)

// Add adds operations, each at its place in the order of stamps, and answers how many of them are taken.
func (l *Log) Add(ops ...api.Op) (int, api.Errno) {
	if !l.isMade() {
		return 0, api.ErrMade
	}
	if err := l.check(ops...); err != api.OK {
		return 0, err
	}
	came := inOrder(ops...)
	again := l.growth.shrink(l.ahead(came...))
	l.redone = len(again)
	return l.merge(came, again), api.OK
}

// check is what is wrong with the first operation that may not be added, or OK.
func (l *Log) check(ops ...api.Op) api.Errno {
	seen := make(map[api.Stamp]struct{}, len(ops))
	for i, op := range ops {
		if err := stamp.CheckOp(op); err != api.OK {
			return err
		}
		_, has := l.growth.find(op.Stamp)
		_, twice := seen[op.Stamp]
		switch {
		case op.Stamp.Time <= l.frontier:
			return api.ErrOld
		case has || twice:
			return api.ErrTwice
		case int64(len(l.growth.steps)+i) >= api.MaxTime:
			return api.ErrFull
		}
		seen[op.Stamp] = struct{}{}
	}
	return api.OK
}

// inOrder are operations by their stamps, with texts of their own: they are kept.
func inOrder(ops ...api.Op) []api.Op {
	l := slices.Clone(ops)
	for i, op := range l {
		l[i].Name, l[i].Key, l[i].Value = strings.Clone(op.Name), strings.Clone(op.Key), strings.Clone(op.Value)
	}
	slices.SortFunc(l, func(a, b api.Op) int { return stamp.Compare(a.Stamp, b.Stamp) })
	return l
}

// ahead is how many steps stand ahead of the first one of what came.
func (l *Log) ahead(came ...api.Op) int {
	if len(came) == 0 {
		return len(l.growth.steps)
	}
	n, _ := l.growth.find(came[0].Stamp)
	return n
}

// merge does what came, and again what was taken back, by stamps; it answers how many of what came are taken.
func (l *Log) merge(came []api.Op, again []step) int {
	taken := 0
	for _, op := range came {
		for len(again) > 0 && stamp.Compare(again[0].Stamp, op.Stamp) < 0 {
			l.growth.grow(again[0].Op)
			again = again[1:]
		}
		if l.growth.grow(op) {
			taken++
		}
	}
	for _, s := range again {
		l.growth.grow(s.Op)
	}
	return taken
}

// Cut makes the operations up to a time part of the base.
func (l *Log) Cut(time int64) api.Errno {
	switch {
	case !l.isMade():
		return api.ErrMade
	case time < l.frontier || time > api.MaxTime:
		return api.ErrArg
	}
	n, _ := l.growth.find(api.Stamp{Time: time + 1})
	l.growth.settle(n)
	l.frontier = time
	return api.OK
}

// Would tells whether an operation would be taken, if it were done behind all others.
func (l *Log) Would(op api.Op) (bool, api.Errno) {
	if !l.isMade() {
		return false, api.ErrMade
	}
	if err := stamp.CheckOp(op); err != api.OK {
		return false, err
	}
	return l.growth.May(op), api.OK
}
