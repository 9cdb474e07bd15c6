package net_test

import (
	"testing"

	"orchard/api"
)

// The examples of the chapter, as they stand there.

func TestExamples(t *testing.T) {
	one, two := between(addr(0, 0), addr(0, 1)), between(addr(8, 2), addr(3, 4))
	n := with(t)
	wantSent(t, "two messages", n, []api.Msg{one, two}, 2)
	if first, ok := n.First(); first != 1 || !ok {
		t.Error("First:", first, ok)
	}
	wantTake(t, "the second one", n, 2, two)
	wantNoTake(t, "the second one again", n, 2, api.ErrNone)
	wantDouble(t, "the first one", n, 1, 3)
	var all []api.Addr
	for group := range api.MaxGroups {
		for replica := range api.MaxReplicas {
			all = append(all, addr(group, replica))
		}
	}
	if lost := n.Lose(all...); lost != 2 || n.Len() != 0 {
		t.Error("Lose of all replicas:", lost, "and left are", n.Len())
	}
}
