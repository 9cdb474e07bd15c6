package replica_test

import (
	"fmt"
	"slices"
	"testing"

	"orchard/api"
)

// P10.6 (one log), P10.7 (nothing is lost), P10.8 (a leader comes): what is told is looked at by house.learn.

// chaos is a house in which anything may come about.
type chaos struct {
	*house
	src *source
	// One of so many messages is lost, comes twice; one of so many moves is a crash; of ten moves so many let a message arrive.
	loss, twice, crashes, arrivals int
	apart                          int // as bits: who hears nothing of the others, nor they of them, for a while
}

func newChaos(t *testing.T, src *source) *chaos {
	t.Helper()
	c := &chaos{house: newHouse(t, oneOf(src, 1, 2, 3, 3, 3, 4, 5, 5)), src: src}
	c.loss, c.twice, c.crashes, c.arrivals = 2+src.below(14), 2+src.below(20), 20+src.below(400), 3+src.below(7)
	if src.below(3) == 0 {
		c.pad = src.below(50_000)
	}
	return c
}

func (c *chaos) move() {
	c.t.Helper()
	src := c.src
	if src.below(120) == 0 {
		c.apart = src.below(1 << len(c.seats))
	}
	if len(c.net) > 60 {
		c.arrive(src.below(len(c.net)), true, false)
	}
	if len(c.net) > 0 && src.below(10) < c.arrivals {
		k := oneOf(src, 0, src.below(len(c.net)))
		if m := c.net[k]; c.apart>>m.From.Replica&1 != c.apart>>m.To.Replica&1 {
			return // it stays on its way
		}
		c.arrive(k, src.below(c.loss) == 0, src.below(c.twice) == 0)
		return
	}
	i := src.below(len(c.seats))
	at := c.seats[i]
	if at.r == nil {
		if src.below(4) == 0 {
			c.open(i)
		}
		return
	}
	if src.below(c.crashes) == 0 {
		if src.below(2) == 0 {
			c.crash(i, src.below(60))
		} else {
			at.d.SetFuse(1+src.below(12), src.below(60))
		}
		return
	}
	switch k := src.below(40); {
	case k < 28:
		c.tick(i)
	case k < 34:
		c.propose(i)
	case k < 38:
		c.learn(i)
	default:
		c.checkpoint(i)
	}
}

// calm brings a majority, or more, up, and lets what is on its way be lost; who they are is told, in the order in which they will tick.
func (c *chaos) calm() []int {
	c.t.Helper()
	n := len(c.seats)
	var up []int
	for i := range n {
		up = slices.Insert(up, c.src.below(len(up)+1), i)
	}
	up = up[:n/2+1+c.src.below(n-n/2)]
	for _, i := range up {
		if c.seats[i].r == nil {
			c.open(i)
		}
		c.seats[i].d.SetFuse(0, 0)
		c.learn(i)
	}
	c.net = nil
	return up
}

func chaosAtRandom(t *testing.T, seed uint64, most int) (tale, bool) {
	t.Helper()
	src := source(seed)
	c := newChaos(t, &src)
	defer func() {
		if t.Failed() {
			t.Logf("seed %d: %v", seed, c)
		}
	}()
	calmed := false
	for range 2 {
		for range most/8 + src.below(most) {
			c.move()
		}
		up := c.calm()
		if !c.isNear(up) {
			continue
		}
		calmed = true
		pick := first
		if src.below(2) == 0 {
			pick = src.below
		}
		c.wantLeader(fmt.Sprint("seed ", seed), up, pick)
	}
	return c.sum, calmed
}

func TestOneLogAtRandom(t *testing.T) {
	var sum tale
	calms := 0
	for seed := range uint64(500) {
		one, calmed := chaosAtRandom(t, seed, 600)
		sum.told += one.told
		sum.crashes += one.crashes
		sum.restores += one.restores
		sum.leads += one.leads
		if calmed {
			calms++
		}
	}
	if sum.told < 20_000 || sum.crashes < 1000 || sum.restores < 1000 || sum.leads < 1000 || calms < 400 {
		t.Errorf("%+v, calm %d times: too few to tell anything", sum, calms)
	}
}

func FuzzOneLog(f *testing.F) {
	for seed := range uint64(10) {
		f.Add(seed)
	}
	f.Fuzz(func(t *testing.T, seed uint64) { chaosAtRandom(t, seed, 2000) })
}

// TestGroups: of each number of replicas; what is asked of any of them is told by all, in one order.
func TestGroups(t *testing.T) {
	for n := 1; n <= 5; n++ {
		h := newHouse(t, n)
		var all []int
		for i := range n {
			all = append(all, i)
		}
		for range 4 {
			h.round(all, first)
		}
		if h.leader(all) != 0 {
			t.Fatalf("of %d replicas the first one does not lead: %v", n, h)
		}
		for k := range 3 * n {
			if _, ok := h.propose(k % n); !ok {
				t.Errorf("of %d replicas %d takes no entry", n, k%n)
			}
			h.flow(all, first)
		}
		h.learnAll()
		if len(h.told) != 3*n || !h.isTold(h.put, all) {
			t.Errorf("of %d replicas was told %v: %v", n, h.told, h)
		}
	}
}

// TestTwoStandAtOnce: whatever arrives first, one of them leads in the end, and the other one knows it.
func TestTwoStandAtOnce(t *testing.T) {
	for seed := range uint64(200) {
		src := source(seed)
		h := newHouse(t, 3)
		for range 4 {
			h.tick(0)
		}
		for range 6 {
			h.tick(1)
		}
		if h.seats[0].r.Role() != api.RoleStand || h.seats[1].r.Role() != api.RoleStand {
			t.Fatal("they do not stand")
		}
		h.flow([]int{0, 1, 2}, src.below)
		h.wantLeader(fmt.Sprint("two stand at once, seed ", seed), []int{0, 1, 2}, first)
		at := h.leader([]int{0, 1, 2})
		want, _ := h.seats[at].r.Leader()
		for i, one := range h.seats {
			if got, is := one.r.Leader(); got != want || !is || i != at && one.r.Role() != api.RoleFollow {
				t.Errorf("seed %d: %d knows the leader %v, %v, want %v", seed, i, got, is, want)
			}
		}
	}
}

// TestALeaderOfBefore: one that has heard of nothing asks for what it was given; it is refused, and comes to tell what the others tell.
func TestALeaderOfBefore(t *testing.T) {
	h := newHouse(t, 3)
	all, others := []int{0, 1, 2}, []int{1, 2}
	for range 4 {
		h.round(all, first)
	}
	h.propose(0)
	h.flow(all, first)
	lost, _ := h.propose(0)
	late := h.net // its messages come when another one leads
	h.net = nil
	for range 12 {
		h.round(others, first)
	}
	at := h.leader(others)
	if at < 0 || h.seats[0].r.Role() != api.RoleLead {
		t.Fatalf("two do not lead: %v", h)
	}
	kept, _ := h.propose(at)
	h.flow(others, first)
	h.net = late
	h.flow(all, first)
	h.tick(0)
	h.flow(all, first)
	if h.seats[0].r.Role() != api.RoleFollow {
		t.Errorf("it leads still: %v", h)
	}
	for range 4 {
		h.round(all, first)
	}
	h.learnAll()
	if !h.isTold(kept, all) || slices.Contains(h.told, lost) {
		t.Errorf("told is %v; %d was given to the leader, %d to the one of before", h.told, kept, lost)
	}
}

// TestWhatALeaderLeavesBehind: an entry that one follower alone has accepted, of a leader that crashed, is told, when that follower is heard of; what nobody has accepted but the leader is not, as long as that is down.
func TestWhatALeaderLeavesBehind(t *testing.T) {
	h := newHouse(t, 3)
	all, others := []int{0, 1, 2}, []int{2, 1}
	for range 4 {
		h.round(all, first)
	}
	left, _ := h.propose(0)
	for k, m := range h.net {
		if m.To.Replica == 2 {
			h.arrive(k, false, false)
			break
		}
	}
	own, _ := h.propose(0)
	h.net = nil
	h.crash(0, 0)
	h.wantLeader("the leader is down", others, first)
	if h.told[0] != left || slices.Contains(h.told, own) {
		t.Errorf("told is %v; %d was left behind, %d was the leader's alone", h.told, left, own)
	}
	h.wake()
	h.wantLeader("all are up again", all, first)
	if h.told[0] != left || slices.Contains(h.told, own) {
		t.Errorf("told is %v", h.told)
	}
}

// life is what a group of three goes through when all that is sent arrives: leaders that follow one another, entries, a replica that sleeps and then lags, checkpoints that it is given. What was told by a replica is in told.
func life(h *house) {
	h.t.Helper()
	all, pair := []int{0, 1, 2}, []int{0, 1}
	rounds := func(up []int, many int) {
		h.t.Helper()
		for range many {
			h.wake()
			h.round(up, first)
			h.learnAll()
		}
	}
	entries := func(up []int, many int) {
		h.t.Helper()
		for range many {
			h.wake()
			if at := h.leader(up); at >= 0 {
				h.propose(at)
				h.flow(up, first)
			}
			h.learnAll()
		}
	}
	rounds(all, 6)
	entries(all, 3)
	// 2 does not hear of anything for a while, and then gets a checkpoint.
	entries(pair, 3)
	h.wake()
	h.checkpoint(0)
	entries(pair, 2)
	rounds(all, 2)
	// 1 and 2 go on without 0.
	rounds([]int{1, 2}, 9)
	entries([]int{1, 2}, 2)
	h.wake()
	h.checkpoint(1)
	rounds(all, 9)
	entries(all, 1)
}

// wake brings up who is down.
func (h *house) wake() {
	h.t.Helper()
	for i, at := range h.seats {
		if at.r == nil {
			h.open(i)
		}
	}
}

func (h *house) learnAll() {
	h.t.Helper()
	for i, at := range h.seats {
		if at.r != nil {
			h.learn(i)
		}
	}
}

// TestALife: without a crash, so that the tests below have what they are to look at.
func TestALife(t *testing.T) {
	h := newHouse(t, 3)
	life(h)
	h.wantLeader("a life", []int{0, 1, 2}, first)
	if len(h.told) < 11 || h.sum.leads < 2 || h.sum.restores < 1 {
		t.Errorf("told %v, %+v: too little", h.told, h.sum)
	}
}

// lifeWithCrash is a life in which the disk of one replica crashes at its k-th change; it tells whether it did, and what the disk was then.
func lifeWithCrash(t *testing.T, i, k, keep int) (bool, string) {
	t.Helper()
	h := newHouse(t, 3)
	wantErr(t, "SetFuse", h.seats[i].d.SetFuse(k, keep), api.OK)
	life(h)
	if h.sum.crashes == 0 {
		return false, ""
	}
	what := fmt.Sprintf("replica %d crashes at its change %d, and keeps %d bytes", i, k, keep)
	torn := h.torn
	h.wake()
	h.wantLeader(what, []int{0, 1, 2}, first)
	// And all crash at once: what was told is told again.
	for j := range h.seats {
		h.crash(j, 0)
	}
	was := len(h.told)
	h.wake()
	h.wantLeader(what+", and then all crash", []int{2, 0, 1}, first)
	if len(h.told) <= was {
		t.Fatalf("%s: nothing more is told", what)
	}
	return true, torn
}

// TestCrashAtEveryStep: of each replica's disk, with each number of bytes kept.
func TestCrashAtEveryStep(t *testing.T) {
	runs := 0
	for i := range 3 {
		for k := 1; ; k++ {
			crashed, all := lifeWithCrash(t, i, k, 1<<20)
			if !crashed {
				break
			}
			for keep := 0; ; keep++ {
				runs++
				if _, torn := lifeWithCrash(t, i, k, keep); torn == all {
					break
				}
			}
		}
	}
	if runs < 2000 {
		t.Errorf("%d crashes: too few to tell anything", runs)
	}
}
