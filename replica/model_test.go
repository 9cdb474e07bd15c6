package replica_test

import (
	"cmp"
	"fmt"
	"maps"
	"slices"
	"strings"
	"testing"

	"orchard/api"
	"orchard/disk"
	"orchard/record"
	"orchard/store"
)

// All of the chapter at once: replicas that are driven at random, held against a plain telling of the chapter, with a store and a disk of its own: both disks have to stay the same, byte by byte.

// plan is a proposer, by chapter 8's words, in plain maps.
type plan struct {
	b        api.Ballot
	from     int64
	promised map[int]int
	came     map[int64]api.Slotted
	entries  map[int64]api.Entry
	who      map[int64]map[int]int // who has accepted a slot's entry
	next     int64
}

func (p *plan) ready(n int) bool { return len(p.promised) > n/2 }

// promise tells whether a majority has promised; false of one that is refused.
func (p *plan) promise(n, i int, l []api.Slotted) bool {
	seen := map[int64]int{}
	for _, x := range l {
		seen[x.Slot]++
		if x.Slot < p.from || x.Slot > p.from+4096 || x.Slot > latest || !below(x.Ballot, p.b) || seen[x.Slot] > 1 {
			return false
		}
	}
	if _, twice := p.promised[i]; twice {
		return false
	}
	was := p.ready(n)
	p.promised[i] = 1
	if was {
		return true
	}
	for _, x := range l {
		if old, is := p.came[x.Slot]; !is || below(old.Ballot, x.Ballot) {
			p.came[x.Slot] = x
		}
	}
	if !p.ready(n) {
		return false
	}
	for slot := range p.came {
		p.next = max(p.next, slot+1)
	}
	for slot := p.from; slot < p.next; slot++ {
		p.entries[slot], p.who[slot] = p.came[slot].Entry, map[int]int{}
	}
	return true
}

// accepted tells whether a slot's entry is chosen just now.
func (p *plan) accepted(n, i int, slot int64) bool {
	who, is := p.who[slot]
	if !is || who[i] > 0 {
		return false
	}
	who[i] = 1
	return len(who) == n/2+1
}

func (p *plan) waiting(n int) []int64 {
	var l []int64
	for slot, who := range p.who {
		if len(who) <= n/2 {
			l = append(l, slot)
		}
	}
	slices.Sort(l)
	return l
}

// model is the chapter's words, one by one.
type model struct {
	c          api.Conf
	d          *disk.Disk
	s          *store.Store
	role       int
	p          *plan
	leader     []api.Ballot // one, or none
	wait       int
	heard      int64
	told       int64
	slot, many int64
	parts      map[int]string
	msgs       []api.Msg
	passed     int // how often the store refused what a new leader took over
}

func modelOver(c api.Conf, d *disk.Disk) (*model, api.Errno) {
	s, err := store.Open(d)
	return &model{c: c, d: d, s: s}, err
}

// stop is a panic by which a call ends with an error.
type stop api.Errno

// call does what a call does: its messages, or the error by which it ended.
func (m *model) call(do func()) (l []api.Msg, err api.Errno) {
	m.msgs = nil
	defer func() {
		if x := recover(); x != nil {
			l, err = nil, api.Errno(x.(stop))
		}
	}()
	do()
	return m.msgs, api.OK
}

// must is for errors of the store that are the answer if it is broken; it tells whether there was none.
func (m *model) must(err api.Errno) bool {
	if err != api.OK && m.s.Broken() {
		panic(stop(err))
	}
	return err == api.OK
}

func (m *model) send(to int, x api.Msg) {
	x.From, x.To = api.Addr{Group: m.c.Group, Replica: m.c.Self}, api.Addr{Group: m.c.Group, Replica: to}
	m.msgs = append(m.msgs, record.CloneMsg(x))
}

func (m *model) sendAll(x api.Msg) {
	for i := range m.c.N {
		if i != m.c.Self {
			m.send(i, x)
		}
	}
}

func (m *model) sendState(to int) {
	slot, data := m.s.State()
	for _, x := range (&one{c: m.c}).cut(to, slot, string(data)) {
		m.send(to, x)
	}
}

func (m *model) down() { m.role, m.p, m.wait = api.RoleFollow, nil, 0 }

func (m *model) downBefore(b api.Ballot) {
	if m.p != nil && below(m.p.b, b) {
		m.down()
	}
}

func (m *model) settle() {
	for _, slot := range m.p.waiting(m.c.N) {
		if slot < m.s.Upto() {
			for i := range m.c.N {
				m.p.accepted(m.c.N, i, slot)
			}
		}
	}
}

func (m *model) mine(slot int64) api.Slotted { return with(slot, m.p.b, m.p.entries[slot]) }

func (m *model) tick() {
	if m.role == api.RoleLead {
		m.settle()
		m.sendAll(beat(m.p.b, m.s.Upto()))
		for k, slot := range m.p.waiting(m.c.N) {
			for i := range m.c.N {
				if k < 16 && i != m.c.Self && m.p.who[slot][i] == 0 {
					m.send(i, accept(m.p.b, slot, m.p.entries[slot]))
				}
			}
		}
		return
	}
	if m.wait++; m.wait == 4+2*m.c.Self {
		m.stand()
	}
}

func (m *model) stand() {
	m.wait = 0
	b := ballot(max(m.heard, m.s.Promised().Round)+1, m.c.Self)
	if b.Round > latest {
		panic(stop(api.ErrLong))
	}
	from := m.s.Upto()
	l, err := m.s.Prepare(b, from)
	if err != api.OK {
		panic(stop(err))
	}
	m.role, m.leader, m.heard = api.RoleStand, nil, b.Round
	m.p = &plan{b: b, from: from, next: from, promised: map[int]int{}, came: map[int64]api.Slotted{}, entries: map[int64]api.Entry{}, who: map[int64]map[int]int{}}
	ready := m.p.promise(m.c.N, m.c.Self, l)
	m.sendAll(prepare(b, from))
	if ready {
		m.lead()
	}
}

func (m *model) lead() {
	m.role, m.leader, m.wait = api.RoleLead, []api.Ballot{m.p.b}, 0
	m.settle()
	var l []api.Slotted
	for _, slot := range m.p.waiting(m.c.N) {
		l = append(l, m.mine(slot))
	}
	if !m.must(m.s.Accept(m.p.b, l...)) {
		m.passed++
	}
	for _, x := range l {
		if m.p.accepted(m.c.N, m.c.Self, x.Slot) {
			m.must(m.s.Choose(x))
		}
	}
	for _, x := range l {
		m.sendAll(accept(m.p.b, x.Slot, x.Entry))
	}
	m.sendAll(beat(m.p.b, m.s.Upto()))
}

func (m *model) propose(e api.Entry) {
	switch {
	case record.CheckEntry(e) != api.OK:
		panic(stop(api.ErrField))
	case m.role != api.RoleLead && m.leader == nil:
		panic(stop(api.ErrLeader))
	case m.role != api.RoleLead:
		m.send(m.leader[0].Replica, forward(e))
		return
	case len(m.p.waiting(m.c.N)) >= 64:
		panic(stop(api.ErrFull))
	case m.p.next > latest:
		panic(stop(api.ErrLong))
	}
	slot := m.p.next
	if err := m.s.Accept(m.p.b, plain(slot, e)); err != api.OK {
		panic(stop(err))
	}
	m.p.entries[slot], m.p.who[slot] = record.CloneEntry(e), map[int]int{}
	m.p.next++
	if m.p.accepted(m.c.N, m.c.Self, slot) {
		m.must(m.s.Choose(m.mine(slot)))
	}
	m.sendAll(accept(m.p.b, slot, e))
}

func (m *model) step(x api.Msg) {
	self := api.Addr{Group: m.c.Group, Replica: m.c.Self}
	if record.CheckMsg(x) != api.OK || x.To != self || x.From.Group != m.c.Group || x.From == self || x.From.Replica >= m.c.N || x.Kind > 9 && x.Kind != 15 {
		panic(stop(api.ErrMessage))
	}
	m.heard = max(m.heard, x.Ballot.Round)
	m.byKind(x.From.Replica, x)
	if m.role == api.RoleLead && m.p.next < m.s.Upto() {
		m.down()
		m.leader = nil
	}
}

func (m *model) byKind(from int, x api.Msg) {
	asked := x.Slot
	if x.Kind == api.MsAccept {
		asked = x.List[0].Slot
	}
	if (x.Kind == api.MsPrepare || x.Kind == api.MsAccept || x.Kind == api.MsAsk) && asked < m.s.First() {
		m.sendState(from)
		return
	}
	switch x.Kind {
	case api.MsPrepare:
		l, err := m.s.Prepare(x.Ballot, x.Slot)
		if err == api.ErrLow {
			m.send(from, refuse(m.s.Promised()))
		}
		if m.must(err) {
			m.downBefore(x.Ballot)
			m.wait = 0
			if len(l) <= 4096 {
				m.send(from, promise(x.Ballot, x.Slot, l...))
			}
		}
	case api.MsPromise:
		if m.p != nil && x.Ballot == m.p.b && m.p.promise(m.c.N, from, record.CloneMsg(x).List) && m.role == api.RoleStand {
			m.lead()
		}
	case api.MsRefuse:
		if m.p != nil && below(m.p.b, x.Ballot) {
			m.down()
			m.leader = nil
		}
	case api.MsAccept:
		err := m.s.Accept(x.Ballot, x.List...)
		if err == api.ErrLow {
			m.send(from, refuse(m.s.Promised()))
		}
		if m.must(err) {
			m.downBefore(x.Ballot)
			m.leader, m.wait = []api.Ballot{x.Ballot}, 0
			m.send(from, accepted(x.Ballot, asked))
		}
	case api.MsAccepted:
		if m.role == api.RoleLead && x.Ballot == m.p.b && m.p.accepted(m.c.N, from, x.Slot) {
			m.must(m.s.Choose(m.mine(x.Slot)))
			m.sendAll(chosen(m.mine(x.Slot)))
		}
	default:
		m.byOtherKind(from, x)
	}
}

func (m *model) byOtherKind(from int, x api.Msg) {
	switch x.Kind {
	case api.MsChosen:
		m.must(m.s.Choose(slices.DeleteFunc(slices.Clone(x.List), func(y api.Slotted) bool { return y.Slot < m.s.First() })...))
	case api.MsBeat:
		if below(x.Ballot, m.s.Promised()) {
			m.send(from, refuse(m.s.Promised()))
			return
		}
		m.downBefore(x.Ballot)
		m.leader, m.wait = []api.Ballot{x.Ballot}, 0
		if x.Slot > m.s.Upto() {
			m.send(from, ask(m.s.Upto()))
		}
	case api.MsAsk:
		var l []api.Slotted
		for slot := x.Slot; len(l) < 64; slot++ {
			e, is := m.s.Chosen(slot)
			if !is {
				break
			}
			l = append(l, plain(slot, e))
		}
		if l != nil {
			m.send(from, chosen(l...))
		}
	case api.MsForward:
		if m.role != api.RoleLead {
			return
		}
		_, err := m.call(func() { m.propose(x.Entry) })
		m.must(err)
	case api.MsState:
		m.gather(x)
	}
}

func (m *model) gather(x api.Msg) {
	if x.Slot <= m.s.Upto() || x.Part.Many > 64 {
		return
	}
	if m.slot != x.Slot || m.many != int64(x.Part.Many) || m.parts == nil {
		m.slot, m.many, m.parts = x.Slot, int64(x.Part.Many), map[int]string{}
	}
	m.parts[x.Part.Index] = string(x.Part.Data)
	data := ""
	for i := range x.Part.Many {
		piece, is := m.parts[i]
		if !is {
			return
		}
		data += piece
	}
	m.parts = nil
	if m.must(m.s.Install(x.Slot, []byte(data))) && m.p != nil {
		m.down()
	}
}

func (m *model) restore() (int64, []byte, bool) {
	if m.s.First() <= m.told {
		return 0, nil, false
	}
	m.told = m.s.First()
	slot, data := m.s.State()
	return slot, data, true
}

func (m *model) next() (int64, api.Entry, bool) {
	e, is := m.s.Chosen(m.told)
	if m.s.First() > m.told || !is {
		return 0, api.Entry{}, false
	}
	m.told++
	return m.told - 1, e, true
}

func (m *model) checkpoint(slot int64, data []byte) api.Errno {
	if slot > m.told {
		return api.ErrArg
	}
	err := m.s.Checkpoint(slot, data)
	if err == api.OK && m.role == api.RoleLead {
		m.settle()
		for at := range maps.Clone(m.p.who) {
			if at < slot {
				delete(m.p.who, at)
			}
		}
	}
	return err
}

func (m *model) face() string {
	var leader api.Ballot
	if m.leader != nil {
		leader = m.leader[0]
	}
	s := fmt.Sprintf("role %d, leader %v %v, told %d, first %d, upto %d, broken %v", m.role, leader, m.leader != nil, m.told, m.s.First(), m.s.Upto(), m.s.Broken())
	return s + chosenNear(m.s.First(), m.s.Upto(), m.s.Chosen)
}

// pair is a replica and its model, each with its disk.
type pair struct {
	t   *testing.T
	src *source
	o   *one
	m   *model
	end bool // whether slots and rounds are near their end
	*tally
}

// tally counts what was answered: so that it is seen whether random runs come to all of it.
type tally struct {
	errs   map[api.Errno]int
	kinds  map[int]int // messages
	roles  map[int]int
	falls  int // from leading to following
	passed int // as the model counts it
}

func newTally() *tally {
	return &tally{errs: map[api.Errno]int{}, kinds: map[int]int{}, roles: map[int]int{}}
}

func newPair(t *testing.T, src *source, sum *tally) *pair {
	t.Helper()
	n := oneOf(src, 1, 2, 3, 3, 3, 4, 5, 5)
	p := &pair{t: t, src: src, end: src.below(12) == 0, tally: sum}
	p.o = laid(t, src.below(n), n, p.past)
	p.pairUp()
	return p
}

// past is what a store has behind it.
func (p *pair) past(s *store.Store) {
	base := int64(0)
	if p.end {
		base = latest - 12
		s.Install(base, []byte("late"))
	}
	if p.src.below(3) == 0 {
		return
	}
	for range p.src.below(8) {
		slot := base + int64(p.src.below(10))
		switch p.src.below(4) {
		case 0:
			s.Prepare(ballot(1+int64(p.src.below(4)), p.src.below(5)), 0)
		case 1, 2:
			s.Accept(ballot(max(1, s.Promised().Round), p.src.below(5)), plain(slot, p.entry(slot)))
		case 3:
			s.Choose(plain(slot, p.entry(slot)))
		}
	}
	if p.src.below(3) == 0 {
		s.Install(s.Upto()+1+int64(p.src.below(3)), []byte(strings.Repeat("old", p.src.below(3)*6000)))
	}
	if p.src.below(100) == 0 {
		s.Accept(ballot(max(1, s.Promised().Round), 4), plain(min(latest, s.Upto()+4090+int64(p.src.below(10))), named(1)))
	}
}

// pairUp gives the model a clone of the replica's disk.
func (p *pair) pairUp() {
	p.t.Helper()
	m, err := modelOver(p.o.c, p.o.d.Clone())
	wantErr(p.t, "the model's store", err, api.OK)
	p.m = m
}

// entry is mostly the one that is the slot's own, so that few choices clash.
func (p *pair) entry(slot int64) api.Entry {
	switch k := p.src.below(40); {
	case k == 0:
		return oneOf(p.src, noEntries()...)
	case k == 1:
		return sample(p.src.below(9))
	case k == 2 && p.src.below(8) == 0:
		return tooLong()
	}
	return named(slot%1000 + 1)
}

func (p *pair) ballot() api.Ballot {
	src := p.src
	switch k := src.below(20); {
	case k < 9 && p.m.p != nil:
		return p.m.p.b
	case k < 12:
		return p.m.s.Promised()
	case k < 15:
		return ballot(p.m.s.Promised().Round+int64(src.below(2)), src.below(5))
	case k == 15 && p.end:
		return ballot(latest-int64(src.below(3)), src.below(5))
	case k == 16:
		return ballot(0, src.below(5))
	}
	return ballot(1+int64(src.below(6)), src.below(5))
}

func (p *pair) slot() int64 {
	src := p.src
	var base int64
	switch src.below(6) {
	case 0:
		base = p.m.s.First()
	case 1:
		if p.m.p != nil {
			base = p.m.p.next
		}
	case 2:
		if p.m.p != nil {
			if l := p.m.p.waiting(p.o.c.N); len(l) > 0 {
				return oneOf(src, l...)
			}
		}
	default:
		base = p.m.s.Upto()
	}
	return min(max(base-2+int64(src.below(5)), 0), latest)
}

func (p *pair) list(most int, b api.Ballot) []api.Slotted {
	var l []api.Slotted
	for range p.src.below(most + 1) {
		slot := p.slot()
		if p.m.p != nil && p.src.below(4) > 0 {
			slot = max(slot, p.m.p.from)
		}
		twice := slices.ContainsFunc(l, func(x api.Slotted) bool { return x.Slot == slot })
		if !twice || p.src.below(8) == 0 {
			round := max(b.Round-1-int64(p.src.below(2)), 0)
			l = append(l, with(slot, ballot(round, p.src.below(5)), p.entry(slot)))
		}
	}
	slices.SortStableFunc(l, func(x, y api.Slotted) int { return cmp.Compare(x.Slot, y.Slot) })
	return l
}

// promised is what a promise brings: now and then with an entry that no store takes.
func (p *pair) promised(b api.Ballot) []api.Slotted {
	l := p.list(3, b)
	if len(l) > 0 && p.src.below(4) == 0 {
		l[p.src.below(len(l))].Entry = tooLong()
	}
	return l
}

// message is one that may come; now and then one that may not be.
func (p *pair) message() api.Msg {
	src, slot, b := p.src, p.slot(), p.ballot()
	var m api.Msg
	switch k := src.below(30); {
	case k < 3:
		m = prepare(b, slot)
	case k < 7:
		m = promise(b, slot, p.promised(b)...)
	case k < 8:
		m = refuse(b)
	case k < 12:
		m = accept(b, slot, p.entry(slot))
	case k < 17:
		m = accepted(b, slot)
	case k < 20:
		m = chosen(append(p.list(2, b), with(slot, b, p.entry(slot)))...)
	case k < 23:
		m = beat(b, slot)
	case k < 25:
		m = ask(slot)
	case k < 27:
		m = forward(p.entry(slot))
	default:
		many := oneOf(src, 1, 1, 2, 2, 2, 3, 64, 65)
		m = state(slot, src.below(many), many, strings.Repeat("s", src.below(20)))
	}
	m.To = addr(p.o.c.Self)
	m.From = addr((p.o.c.Self + 1 + src.below(max(1, p.o.c.N-1))) % p.o.c.N)
	switch src.below(60) {
	case 0:
		m.From = addr(src.below(6))
	case 1:
		m.To.Group++
	case 2:
		m.From.Group++
	case 3:
		m.Kind = src.below(18)
	case 4:
		m.Slot = oneOf(src, int64(-1), latest+1)
	}
	return m
}

// both holds what the replica and the model answered against each other.
func (p *pair) both(what string, got []api.Msg, err api.Errno, want []api.Msg, due api.Errno) {
	p.t.Helper()
	wantErr(p.t, what, err, due)
	wantMsgs(p.t, what, got, want...)
	p.errs[err]++
	for _, m := range got {
		p.kinds[m.Kind]++
	}
}

func (p *pair) steps() {
	p.t.Helper()
	m := p.message()
	kept := record.CloneMsg(m)
	got, err := p.o.Step(m)
	if !record.SameMsg(m, kept) {
		p.t.Error("the message has changed")
	}
	want, due := p.m.call(func() { p.m.step(kept) })
	p.both("Step of "+tell(m), got, err, want, due)
}

func (p *pair) tells() {
	p.t.Helper()
	if p.src.below(3) == 0 {
		slot, data, is := p.o.Restore()
		at, want, due := p.m.restore()
		if slot != at || string(data) != string(want) || is != due {
			p.t.Errorf("Restore: %d, %q, %v, want %d, %q, %v", slot, data, is, at, want, due)
		}
	}
	for range p.src.below(4) {
		slot, e, is := p.o.Next()
		at, want, due := p.m.next()
		if slot != at || !record.SameEntry(e, want) || is != due {
			p.t.Errorf("Next: %d, %v, %v, want %d, %v, %v", slot, e, is, at, want, due)
		}
	}
}

// move does one thing to both.
func (p *pair) move() {
	p.t.Helper()
	src := p.src
	switch k := src.below(100); {
	case k < 22:
		got, err := p.o.Tick()
		want, due := p.m.call(p.m.tick)
		p.both("Tick", got, err, want, due)
	case k < 32:
		e := p.entry(p.slot())
		got, err := p.o.Propose(e)
		want, due := p.m.call(func() { p.m.propose(e) })
		p.both("Propose", got, err, want, due)
	case k < 84:
		p.steps()
	case k < 92:
		p.tells()
	case k < 95:
		slot := p.m.told - int64(src.below(3)) + int64(src.below(2))
		data := []byte(strings.Repeat("c", src.below(40)))
		wantErr(p.t, "Checkpoint", p.o.Checkpoint(slot, data), p.m.checkpoint(slot, data))
	case k < 97:
		n, keep := src.below(20), src.below(60)
		wantErr(p.t, "SetFuse", p.o.d.SetFuse(n, keep), p.m.d.SetFuse(n, keep))
	default:
		if p.o.Broken() || src.below(6) == 0 {
			p.reopen()
		}
	}
}

func (p *pair) reopen() {
	p.t.Helper()
	keep := p.src.below(60)
	wantErr(p.t, "Crash", p.o.d.Crash(keep), p.m.d.Crash(keep))
	wantErr(p.t, "Restart", p.o.d.Restart(), p.m.d.Restart())
	m, err := modelOver(p.o.c, p.m.d)
	if err != api.OK {
		// What was chosen at random may clash on the disk.
		p.o = fresh(p.t, p.o.c.Self, p.o.c.N)
		p.pairUp()
		return
	}
	p.o, p.m = p.o.again(), m
}

func runAtRandom(t *testing.T, seed uint64, moves int, sum *tally) {
	t.Helper()
	src := source(seed)
	p := newPair(t, &src, sum)
	for i := range moves {
		role, m, passed := p.o.Role(), p.m, p.m.passed
		p.move()
		p.passed += m.passed - passed
		p.roles[p.o.Role()]++
		if role == api.RoleLead && p.o.Role() == api.RoleFollow {
			p.falls++
		}
		if got, want := p.o.face(), p.m.face(); got != want {
			t.Errorf("it is\n%s, want\n%s", got, want)
		}
		if p.o.s.Promised() != p.m.s.Promised() || i%8 == 0 && files(p.o.d) != files(p.m.d) {
			t.Error("the disks are unlike")
		}
		if t.Failed() {
			t.Fatalf("seed %d, move %d of replica %v", seed, i, p.o.c)
		}
	}
}

func TestReplicasAtRandom(t *testing.T) {
	sum := newTally()
	for seed := range uint64(1500) {
		runAtRandom(t, seed, 150, sum)
	}
	for kind := api.MsPrepare; kind <= api.MsForward; kind++ {
		if sum.kinds[kind] < 500 {
			t.Errorf("%d messages of kind %d: too few to tell anything", sum.kinds[kind], kind)
		}
	}
	for _, err := range []api.Errno{api.ErrLong, api.ErrFull, api.ErrArg, api.ErrDown, api.ErrField, api.ErrBroken, api.ErrLeader, api.ErrMessage} {
		if sum.errs[err] < 5 {
			t.Errorf("%d times the error %d: too few to tell anything", sum.errs[err], err)
		}
	}
	if sum.roles[api.RoleStand] < 5000 || sum.roles[api.RoleLead] < 5000 || sum.falls < 200 || sum.kinds[api.MsState] < 500 || sum.passed < 30 {
		t.Errorf("%v: too few to tell anything", sum)
	}
}

func FuzzReplica(f *testing.F) {
	for seed := range uint64(10) {
		f.Add(seed)
	}
	f.Fuzz(func(t *testing.T, seed uint64) { runAtRandom(t, seed, 300, newTally()) })
}
