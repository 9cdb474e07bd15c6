package epoch_test

import (
	"testing"

	"orchard/api"
	"orchard/epoch"
)

// What follows: P17.5 and P17.6.

// wantNext is P17.5 of an epoch and the one ahead of it, by their fields.
func wantNext(t *testing.T, a, b api.Epoch) {
	t.Helper()
	if !epoch.Follows(a, b) {
		t.Errorf("%v does not follow %v", b, a)
	}
	if b.Number != a.Number+1 {
		t.Errorf("the number %d comes behind %d", b.Number, a.Number)
	}
	changed := 0
	for site := range sites {
		was, is := a.States[site], b.States[site]
		if is != was && is != was+1 {
			t.Errorf("site %d goes from the state %d to %d", site, was, is)
		}
		if was == retired && b.Seals[site] != a.Seals[site] {
			t.Errorf("site %d has the seal %d, and then %d", site, a.Seals[site], b.Seals[site])
		}
		if was != none && b.Sponsor[site] != a.Sponsor[site] {
			t.Errorf("site %d has the sponsor %d, and then %d", site, a.Sponsor[site], b.Sponsor[site])
		}
		if is != was {
			changed++
		}
	}
	if changed != 1 {
		t.Errorf("from %v to %v the states of %d sites change", a, b, changed)
	}
}

// wantLife is P17.5 and P17.6 of all epochs of a machine.
func wantLife(t *testing.T, l []api.Epoch) {
	t.Helper()
	for i, e := range l {
		if e.Number != int64(i) {
			t.Errorf("the epoch %d has the number %d", i, e.Number)
		}
		if !epoch.Check(e) {
			t.Errorf("%v may not be", e)
		}
		if i > 0 {
			wantNext(t, l[i-1], e)
		}
		wantOneMember(t, e)
	}
}

func wantOneMember(t *testing.T, e api.Epoch) {
	t.Helper()
	for _, state := range e.States {
		if state == member {
			return
		}
	}
	t.Errorf("no site of %v is a member", e)
}

// TestEveryEpochOfThreeSites: from each beginning to all that entries can make of it, by machines; of three sites, with two lengths.
func TestEveryEpochOfThreeSites(t *testing.T) {
	seen := map[api.Epoch]bool{}
	var walk func(m *epoch.Machine)
	walk = func(m *epoch.Machine) {
		if seen[m.Current()] {
			return
		}
		seen[m.Current()] = true
		wantLife(t, look(t, m))
		for kind := enJoin; kind <= enSealed; kind++ {
			for site := range 3 {
				for sponsor := range 3 {
					for _, length := range []int64{0, 7} {
						c := m.Clone()
						if c.Apply(api.Entry{Kind: kind, Site: site, Sponsor: sponsor, Length: length}) == api.OK {
							walk(c)
						}
					}
				}
			}
		}
	}
	for bits := 1; bits < 1<<3; bits++ {
		walk(newOne(t, subset(bits)...))
	}
	if len(seen) < 500 {
		t.Errorf("there are %d epochs only", len(seen))
	}
}

// TestAnyEntries: over lists of any entries, for all sites; whatever is refused changes nothing.
func TestAnyEntries(t *testing.T) {
	took, refused := 0, 0
	for seed := range uint64(300) {
		s := source(seed)
		members := someMembers(&s)
		m, err := epoch.New(members...)
		if err != api.OK {
			continue
		}
		p := &pair{&s, m, look(t, m)}
		for range 80 {
			before := m.Current()
			if x := p.someEntry(); m.Apply(x) == api.OK && x.Kind != enNone {
				took++
				p.l = append(p.l, m.Current())
				wantNext(t, before, m.Current())
			} else {
				refused++
				wantEpoch(t, "refused", m.Current(), before)
			}
		}
		wantLife(t, look(t, m))
	}
	if took < 1000 || refused < 1000 {
		t.Errorf("%d entries are taken, %d are refused", took, refused)
	}
}

// TestLoadedLives: whatever bytes are loaded, the epochs are a life's.
func TestLoadedLives(t *testing.T) {
	s := source(11)
	others := 0
	for range 20_000 {
		l := one(&s, lives()[3:7]...)
		was := modelBytes(l.epochs(t)...)
		b := spoilt(&s, was)
		if s.below(2) == 0 {
			// One site's last place is another one.
			epochs := l.epochs(t)
			last := &epochs[len(epochs)-1]
			*last = with(*last, s.below(sites), place{s.below(4), int64(s.below(9)), s.below(9) - 1})
			b = modelBytes(epochs...)
		}
		m, err := epoch.Load(b)
		if err != api.OK {
			continue
		}
		wantLife(t, look(t, m))
		if string(m.Bytes()) != string(was) {
			others++
		}
	}
	if others < 30 {
		t.Errorf("only %d other machines came of other bytes", others)
	}
}

// TestTheLongestLife: no machine comes near to MaxEpochs.
func TestTheLongestLife(t *testing.T) {
	m := longest().made(t)
	l := look(t, m)
	if len(l) != 22 {
		t.Errorf("it has %d epochs", len(l))
	}
	wantLife(t, l)
	for x := range modelEntries(m.Current()) {
		if m.Apply(x) == api.OK {
			t.Errorf("behind its end it takes kind %d, site %d", x.Kind, x.Site)
		}
	}
}
