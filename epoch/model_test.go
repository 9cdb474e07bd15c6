package epoch_test

import (
	"fmt"
	"iter"
	"slices"
	"testing"

	"orchard/api"
	"orchard/epoch"
)

// All of the chapter at once: machines that are driven at random, held against a plain telling of the chapter.

// fault is an error, and whether it applies.
type fault struct {
	is  bool
	err api.Errno
}

// first is the first error that applies.
func first(l ...fault) api.Errno {
	for _, f := range l {
		if f.is {
			return f.err
		}
	}
	return api.OK
}

func isSite(n int) bool { return 0 <= n && n <= 7 }

// stateOf is a site's state, -1 of what is no site.
func stateOf(e api.Epoch, site int) int {
	if !isSite(site) {
		return -1
	}
	return e.States[site]
}

func modelStart(members []int) (api.Epoch, api.Errno) {
	seen, wrong, twice := map[int]bool{}, len(members) == 0, false
	for _, site := range members {
		wrong = wrong || !isSite(site)
		twice = twice || seen[site]
		seen[site] = true
	}
	if err := first(fault{wrong, errArg}, fault{twice, errTwice}); err != api.OK {
		return api.Epoch{}, err
	}
	e := api.Epoch{Sponsor: [8]int{-1, -1, -1, -1, -1, -1, -1, -1}}
	for site := range seen {
		e.States[site] = member
	}
	return e, api.OK
}

func modelCheck(e api.Epoch) bool {
	writes := 0
	for site := range 8 {
		seal, sponsor := e.Seals[site], e.Sponsor[site]
		switch e.States[site] {
		case none:
			if seal != 0 || sponsor != -1 {
				return false
			}
			continue
		case member:
			writes++
			fallthrough
		case leaving:
			if seal != 0 {
				return false
			}
		case retired:
			if seal < 0 || seal > 1<<40 {
				return false
			}
		default:
			return false
		}
		if sponsor < -1 || sponsor > 7 || sponsor == site {
			return false
		}
	}
	return writes > 0 && 0 <= e.Number && e.Number <= 1023
}

func modelApply(e api.Epoch, x api.Entry) (api.Epoch, api.Errno) {
	others := 0
	for site, state := range e.States {
		if state == member && site != x.Site {
			others++
		}
	}
	state := stateOf(e, x.Site)
	faults := []fault{
		{!modelCheck(e), errArg},
		{x.Kind < enJoin || x.Kind > enSealed, errArg},
		{!isSite(x.Site), errArg},
		{e.Number == 1023, errLong},
	}
	switch x.Kind {
	case enJoin:
		faults = append(faults, fault{state != none, errState}, fault{!isSite(x.Sponsor), errArg}, fault{stateOf(e, x.Sponsor) != member, errState})
	case enLeave:
		faults = append(faults, fault{state != member, errState}, fault{others == 0, errLast})
	case enSealed:
		faults = append(faults, fault{state != leaving, errState}, fault{x.Length < 0 || x.Length > 1<<40, errArg})
	}
	if err := first(faults...); err != api.OK {
		return api.Epoch{}, err
	}
	e.Number++
	switch x.Kind {
	case enJoin:
		e.States[x.Site], e.Sponsor[x.Site] = member, x.Sponsor
	case enLeave:
		e.States[x.Site] = leaving
	case enSealed:
		e.States[x.Site], e.Seals[x.Site] = retired, x.Length
	}
	return e, api.OK
}

// modelEntries are all entries that may make b of something: each kind, site and sponsor, each of b's seals as a length.
func modelEntries(b api.Epoch) iter.Seq[api.Entry] {
	return func(yield func(api.Entry) bool) {
		for i := range 8 * 17 {
			site, k := i/17, i%17
			x := leave(site)
			if k > 8 {
				x = sealed(site, b.Seals[k-9])
			} else if k > 0 {
				x = join(site, k-1)
			}
			if !yield(x) {
				return
			}
		}
	}
}

func modelFollows(a, b api.Epoch) bool {
	for x := range modelEntries(b) {
		if e, err := modelApply(a, x); err == api.OK && e == b {
			return true
		}
	}
	return false
}

// modelInt is a wire's int: twice it, or one less than twice it without its sign; seven bits a byte, the lowest first.
func modelInt(n int64) []byte {
	u := uint64(n) << 1
	if n < 0 {
		u = uint64(-(n+1))<<1 | 1
	}
	var b []byte
	for u >= 128 {
		b = append(b, byte(u%128)+128)
		u /= 128
	}
	return append(b, byte(u))
}

// modelBytes is how many epochs there are, and each: its number, states, seals, sponsors.
func modelBytes(l ...api.Epoch) []byte {
	b := modelInt(int64(len(l)))
	for _, e := range l {
		b = append(b, modelInt(e.Number)...)
		for _, state := range e.States {
			b = append(b, modelInt(int64(state))...)
		}
		for _, seal := range e.Seals {
			b = append(b, modelInt(seal)...)
		}
		for _, sponsor := range e.Sponsor {
			b = append(b, modelInt(int64(sponsor))...)
		}
	}
	return b
}

// modelInts are the ints that b is made of; false, if it is not made of ints.
func modelInts(b []byte) ([]int64, bool) {
	var l []int64
	for len(b) > 0 {
		size := 0
		for size < len(b) && b[size] >= 128 {
			size++
		}
		if size == len(b) || size > 9 {
			return nil, false
		}
		u := uint64(0)
		for i := size; i >= 0; i-- {
			u = u<<7 | uint64(b[i]&127)
		}
		n := int64(u >> 1)
		if u%2 == 1 {
			n = -n - 1
		}
		if !slices.Equal(modelInt(n), b[:size+1]) {
			return nil, false
		}
		l, b = append(l, n), b[size+1:]
	}
	return l, true
}

// modelLoad is the epochs of the machine whose form b is.
func modelLoad(b []byte) ([]api.Epoch, bool) {
	l, ok := modelInts(b)
	if !ok || len(l) == 0 || len(l)%25 != 1 || l[0] != int64(len(l)/25) || l[0] == 0 {
		return nil, false
	}
	var out []api.Epoch
	for i := 1; i < len(l); i += 25 {
		e := api.Epoch{Number: l[i], Seals: api.Vector(l[i+9 : i+17])}
		for site := range 8 {
			e.States[site], e.Sponsor[site] = int(l[i+1+site]), int(l[i+17+site])
		}
		out = append(out, e)
	}
	return out, isLife(out)
}

// isLife is whether these are a machine's epochs.
func isLife(l []api.Epoch) bool {
	for i, e := range l[1:] {
		if !modelFollows(l[i], e) {
			return false
		}
	}
	var members []int
	for site, state := range l[0].States {
		if state == member {
			members = append(members, site)
		}
	}
	e, err := modelStart(members)
	return err == api.OK && e == l[0]
}

func modelSealed(e api.Epoch, v api.Vector) api.Vector {
	for site := range 8 {
		if e.States[site] == retired && v[site] > e.Seals[site] {
			v[site] = e.Seals[site]
		}
	}
	return v
}

// pair is a machine and its model, a list of epochs.
type pair struct {
	s *source
	m *epoch.Machine
	l []api.Epoch
}

func (p *pair) last() api.Epoch { return p.l[len(p.l)-1] }

func someSite(s *source) int {
	if s.below(30) == 0 {
		return one(s, siteNumbers()...)
	}
	return s.below(8)
}

func someLength(s *source) int64 {
	if s.below(2) == 0 {
		return one(s, lengthNumbers()...)
	}
	return int64(s.next())
}

// someOf is a site with that state, if there is one, mostly.
func (p *pair) someOf(state int) int {
	var l []int
	for site, other := range p.last().States {
		if other == state {
			l = append(l, site)
		}
	}
	if len(l) == 0 || p.s.below(5) == 0 {
		return someSite(p.s)
	}
	return one(p.s, l...)
}

func (p *pair) someEntry() api.Entry {
	var x api.Entry
	switch p.s.below(12) {
	case 0:
		x = api.Entry{Kind: one(p.s, kinds()...), Site: someSite(p.s), Sponsor: someSite(p.s), Length: someLength(p.s)}
	case 1, 2, 3, 4, 5:
		x = join(p.someOf(none), p.someOf(member))
	case 6, 7, 8:
		x = leave(p.someOf(member))
	default:
		x = sealed(p.someOf(leaving), someLength(p.s))
	}
	if p.s.below(3) == 0 {
		x = filled(x)
	}
	return x
}

func someMembers(s *source) []int {
	var l []int
	for site := range 8 {
		if s.below(3) == 0 {
			l = append(l, site)
		}
	}
	for range s.below(9) / 8 {
		l = append(l, someSite(s))
	}
	for i := range l {
		j := i + s.below(len(l)-i)
		l[i], l[j] = l[j], l[i]
	}
	return l
}

func (p *pair) apply(x api.Entry) api.Errno {
	if x.Kind == enNone {
		return api.OK
	}
	e, err := modelApply(p.last(), x)
	if err == api.OK {
		p.l = append(slices.Clone(p.l), e)
	}
	return err
}

// spoilt is b, or b with something done to it.
func spoilt(s *source, b []byte) []byte {
	b = slices.Clone(b)
	for range s.below(3) {
		at := s.below(len(b))
		switch s.below(4) {
		case 0:
			b[at] += byte(one(s, -2, -1, 1, 2))
		case 1:
			b[at] = byte(s.next())
		case 2:
			b = append(b[:at:at], b[at+s.below(len(b)-at):]...)
		default:
			b = slices.Insert(b, at, b[s.below(len(b)):]...)
		}
		if len(b) == 0 {
			break
		}
	}
	return b
}

// step does one thing to both; it tells what, and what both answered.
func (p *pair) step() (string, api.Errno, api.Errno) {
	switch p.s.below(40) {
	case 0:
		c := p.m.Clone()
		p.m.Apply(p.someEntry())
		p.m = c
		return "Clone", api.OK, api.OK
	case 1:
		members := someMembers(p.s)
		m, err := epoch.New(members...)
		e, due := modelStart(members)
		if err == api.OK && due == api.OK {
			p.m, p.l = m, []api.Epoch{e}
		}
		return fmt.Sprintf("New of %v", members), err, due
	case 2, 3:
		b := spoilt(p.s, p.m.Bytes())
		m, err := epoch.Load(b)
		l, ok := modelLoad(b)
		if err == api.OK && ok {
			p.m, p.l = m, l
		}
		return fmt.Sprintf("Load of %v", b), err, first(fault{!ok, errArg})
	}
	x := p.someEntry()
	return fmt.Sprintf("Apply of kind %d, site %d, sponsor %d, length %d", x.Kind, x.Site, x.Sponsor, x.Length), p.m.Apply(x), p.apply(x)
}

// wantAlike: the machine is the model's, and the functions say of its epochs what the model's do.
func (p *pair) wantAlike(t *testing.T, what string) {
	t.Helper()
	wantMachine(t, what, p.m, p.l)
	a, b := one(p.s, p.l...), one(p.s, p.l...)
	if got, want := epoch.Follows(a, b), modelFollows(a, b); got != want {
		t.Errorf("%s: Follows of %v and %v is %v", what, a, b, got)
	}
	x := p.someEntry()
	got, err := epoch.Apply(a, x)
	want, due := modelApply(a, x)
	wantErr(t, what+", Apply of one of them", err, due)
	wantEpoch(t, what+", Apply of one of them", got, want)
	var v api.Vector
	for site := range v {
		v[site] = someLength(p.s)
	}
	if epoch.Sealed(a, v) != modelSealed(a, v) {
		t.Errorf("%s: Sealed of %v and %v is %v", what, a, v, epoch.Sealed(a, v))
	}
}

func runAtRandom(t *testing.T, seed uint64, steps int, came map[string]int) {
	t.Helper()
	s := source(seed)
	p := &pair{&s, newOne(t, 2, 5), []api.Epoch{epochOf(0, isNone, isNone, isMember, isNone, isNone, isMember)}}
	for i := range steps {
		step, got, want := p.step()
		what := fmt.Sprintf("seed %d, step %d: %s", seed, i, step)
		if got != want {
			t.Fatalf("%s: error %d, want %d", what, got, want)
		}
		p.wantAlike(t, what)
		if t.Failed() {
			t.FailNow()
		}
		came[fmt.Sprint(step[:5], got)]++
		came["the longest"] = max(came["the longest"], len(p.l))
	}
}

func TestMachinesAtRandom(t *testing.T) {
	came := map[string]int{}
	for seed := range uint64(250) {
		runAtRandom(t, seed, 100, came)
	}
	for _, c := range []string{"Clone0", "New o0", "New o1", "New o5", "Load 0", "Load 1", "Apply0", "Apply1", "Apply170", "Apply171"} {
		if came[c] < 20 {
			t.Errorf("%s came %d times only", c, came[c])
		}
	}
	if came["the longest"] < 18 {
		t.Errorf("the longest machine has %d epochs only", came["the longest"])
	}
}

func FuzzMachine(f *testing.F) {
	for seed := range uint64(10) {
		f.Add(seed)
	}
	f.Fuzz(func(t *testing.T, seed uint64) { runAtRandom(t, seed, 200, map[string]int{}) })
}
