package replica_test

import (
	"math"
	"slices"
	"testing"

	"orchard/api"
	"orchard/replica"
	"orchard/store"
)

// P10.1, and Patience.

func opened(t *testing.T) *store.Store {
	t.Helper()
	s, err := store.Open(newDisk(t))
	wantErr(t, "store.Open", err, api.OK)
	return s
}

func wantNone(t *testing.T, c api.Conf, s *store.Store, want api.Errno) {
	t.Helper()
	r, err := replica.New(c, s)
	if r != nil || err != want {
		t.Errorf("New(%v): %v, error %d, want none and %d", c, r, err, want)
	}
}

func mayBe(c api.Conf) bool {
	return c.Group >= 0 && c.Group <= 8 && c.N >= 1 && c.N <= 5 && c.Self >= 0 && c.Self <= c.N-1
}

func TestPlaces(t *testing.T) {
	s := opened(t)
	for _, g := range []int{math.MinInt, -1, 0, 1, 7, 8, 9, math.MaxInt} {
		for _, n := range []int{math.MinInt, -1, 0, 1, 2, 3, 4, 5, 6, math.MaxInt} {
			for _, self := range []int{math.MinInt, -1, 0, 1, 2, 3, 4, 5, 6, math.MaxInt} {
				c := api.Conf{Group: g, Self: self, N: n}
				if !mayBe(c) {
					wantNone(t, c, s, api.ErrArg)
					continue
				}
				if r, err := replica.New(c, s); r == nil || err != api.OK {
					t.Errorf("New(%v): %v, error %d", c, r, err)
				}
			}
		}
	}
}

// ErrMade comes ahead of all others, also of a place that may not be.
func TestStoresThatNoCallMade(t *testing.T) {
	for _, s := range []*store.Store{nil, {}} {
		wantNone(t, api.Conf{Group: 1, Self: 0, N: 3}, s, api.ErrMade)
		wantNone(t, api.Conf{Group: 9, Self: 0, N: 3}, s, api.ErrMade)
		wantNone(t, api.Conf{Group: -1, Self: 7, N: 0}, s, api.ErrMade)
	}
}

func TestItsGroupIsInItsMessages(t *testing.T) {
	for _, g := range []int{0, 8} {
		r, _ := replica.New(api.Conf{Group: g, Self: 1, N: 2}, opened(t))
		for range 5 {
			r.Tick()
		}
		l, err := r.Tick()
		wantErr(t, "Tick", err, api.OK)
		wantMsgs(t, "Tick", l, api.Msg{Kind: api.MsPrepare, From: api.Addr{Group: g, Replica: 1}, To: api.Addr{Group: g}, Ballot: ballot(1, 1)})
		m := api.Msg{Kind: api.MsAsk, From: api.Addr{Group: g}, To: api.Addr{Group: g, Replica: 1}}
		if _, err := r.Step(m); err != api.OK {
			t.Error("Step of a message of its group", err)
		}
	}
}

func TestANewReplica(t *testing.T) {
	for n := 1; n <= 5; n++ {
		for self := range n {
			o := fresh(t, self, n)
			o.wantRole(api.RoleFollow)
			o.wantNoLeader()
			o.wantUpto(0)
			o.wantNoRestore()
			o.wantNoNext()
			if o.Told() != 0 || o.First() != 0 || o.Broken() {
				t.Errorf("%s: told %d, first %d, broken %v", o.name, o.Told(), o.First(), o.Broken())
			}
			o.refusedPropose(named(1), api.ErrLeader)
			o.wantWait(0, 1)
		}
	}
}

// TestANewReplicaOverAStore: what the store has it has; what it had heard of is gone, but what was promised is not.
func TestANewReplicaOverAStore(t *testing.T) {
	o := laid(t, 1, 3, func(s *store.Store) {
		s.Accept(ballot(6, 2), plain(4, named(5)), plain(6, named(7)))
		s.Install(3, []byte("state"))
		s.Choose(plain(3, named(4)), plain(4, named(5)))
	})
	o.wantRole(api.RoleFollow)
	o.wantNoLeader()
	if o.Told() != 0 || o.First() != 3 {
		t.Error("told", o.Told(), "first", o.First())
	}
	o.wantUpto(5)
	o.wantNoNext()
	o.wantRestore(3, "state")
	o.wantNext(3, named(4))
	o.wantNext(4, named(5))
	o.wantNoNext()
	o.wantWait(0, 7)
}

// TestANewReplicaOverABrokenStore: it is one, whose store says so.
func TestANewReplicaOverABrokenStore(t *testing.T) {
	o := fresh(t, 0, 3)
	o.breakStore()
	r, err := replica.New(o.c, o.s)
	if r == nil || err != api.OK || !r.Broken() {
		t.Fatalf("New: %v, error %d", r, err)
	}
	o.Replica = r
	o.quiet(3)
	o.refusedTick(api.ErrBroken)
}

func TestPatience(t *testing.T) {
	want := []int{4, 6, 8, 10, 12}
	var got []int
	for self := range 5 {
		got = append(got, replica.Patience(self))
	}
	if !slices.Equal(got, want) {
		t.Errorf("Patience: %v, want %v", got, want)
	}
	for _, self := range []int{math.MinInt, -2, -1, 5, 6, math.MaxInt} {
		if n := replica.Patience(self); n != 0 {
			t.Errorf("Patience(%d): %d", self, n)
		}
	}
}
