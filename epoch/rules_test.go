package epoch_test

import (
	"fmt"
	"math"
	"reflect"
	"slices"
	"testing"
	"time"

	"orchard/api"
	"orchard/epoch"
	"orchard/record"
)

// R2: errors' order, and that an error changes nothing, stands in the tests of the calls; R4 (of Start's and New's lists, and of Load's bytes) in theirs. Here: all arguments, what no call made, what is shared, the same again, and THE BOUND.

// R1.

func machines(t *testing.T) []*epoch.Machine {
	t.Helper()
	l := []*epoch.Machine{nil, {}}
	for _, x := range lives() {
		l = append(l, x.made(t))
	}
	return l
}

func TestAllArguments(t *testing.T) {
	epochs := append(several(), unlikely()...)
	for _, a := range epochs {
		epoch.Check(a)
		epoch.Members(a)
		for _, n := range lengthNumbers() {
			epoch.Sealed(a, api.Vector{n, n, n, n, n, n, n, n})
		}
		for _, b := range epochs {
			epoch.Follows(a, b)
		}
	}
	for _, kind := range kinds() {
		for _, site := range siteNumbers() {
			for _, sponsor := range siteNumbers() {
				for _, length := range lengthNumbers() {
					x := api.Entry{Kind: kind, Site: site, Sponsor: sponsor, Length: length}
					epoch.Apply(api.Epoch{}, filled(x))
					epoch.Apply(ofAll(), filled(x))
				}
			}
		}
	}
	for _, m := range machines(t) {
		for _, n := range append(lengthNumbers(), maxEpochs-1, maxEpochs) {
			m.At(n)
		}
		for _, kind := range kinds() {
			for _, site := range siteNumbers() {
				m.Apply(api.Entry{Kind: kind, Site: site, Sponsor: site, Length: int64(site)})
				m.Apply(filled(api.Entry{Kind: kind, Site: site}))
			}
		}
	}
	for _, site := range siteNumbers() {
		for _, other := range siteNumbers() {
			epoch.Start(site, other)
			epoch.New(other, 1, site)
		}
	}
}

// R5: a machine that no call made.

func TestMachinesThatNoCallMade(t *testing.T) {
	for _, m := range []*epoch.Machine{nil, {}} {
		for _, kind := range kinds() {
			for _, site := range siteNumbers() {
				x := api.Entry{Kind: kind, Site: site, Length: 1}
				wantErr(t, "Apply", m.Apply(x), errMade)
				wantErr(t, "Apply", m.Apply(filled(x)), errMade)
			}
		}
		wantEpoch(t, "Current", m.Current(), api.Epoch{})
		for _, n := range lengthNumbers() {
			if e, ok := m.At(n); ok || e != (api.Epoch{}) {
				t.Errorf("At(%d) is %v, %v", n, e, ok)
			}
		}
		all := m.All()
		if all == nil {
			t.Fatal("there is no iterator")
		}
		for range all {
			t.Error("its iterator tells something")
		}
		if m.Bytes() != nil || m.Clone() != nil {
			t.Error("it answers", m.Bytes(), m.Clone())
		}
		if m != nil && !reflect.ValueOf(*m).IsZero() {
			t.Error("a zero machine has become another one")
		}
	}
}

// R3: what is handed in or answered, and then written to.

func TestMembersThatAreHandedIn(t *testing.T) {
	for _, l := range lives() {
		want := l.epochs(t)[:1]
		handed := slices.Grow(slices.Clone(l.members), 5)
		e, err := epoch.Start(handed...)
		wantErr(t, "Start", err, api.OK)
		m := newOne(t, handed...)
		if !slices.Equal(handed, l.members) || slices.Max(handed[len(handed):cap(handed)]) != 0 || slices.Min(handed[len(handed):cap(handed)]) != 0 {
			t.Errorf("what was handed in is %v, and was %v", handed[:cap(handed)], l.members)
		}
		for i := range handed {
			handed[i] = (handed[i] + 3) % sites
		}
		wantEpoch(t, "the list of Start is written to", e, want[0])
		wantMachine(t, "the list of New is written to", m, want)
	}
}

func TestEntriesThatAreHandedIn(t *testing.T) {
	m := newOne(t, 0, 1)
	for _, x := range []api.Entry{join(2, 0), leave(1), sealed(1, 40), join(1, 0), {}} {
		x = filled(x)
		was := record.CloneEntry(x)
		epoch.Apply(m.Current(), x)
		m.Apply(x)
		if !record.SameEntry(x, was) {
			t.Errorf("what was handed in is %v, and was %v", x, was)
		}
	}
}

func TestBytesThatAreHandedIn(t *testing.T) {
	for _, l := range lives() {
		b := modelBytes(l.epochs(t)...)
		handed := slices.Grow(slices.Clone(b), 9)
		m := loaded(t, handed)
		if !slices.Equal(handed, b) || slices.Max(handed[len(handed):cap(handed)]) != 0 {
			t.Error("Load writes to its bytes")
		}
		all := m.All()
		for i := range handed {
			handed[i] = 255
		}
		wantMachine(t, "the bytes of Load are written to", m, l.epochs(t))
		wantEpochs(t, "the bytes of Load are written to", slices.Collect(all), l.epochs(t))
	}
}

func TestWhatIsAnsweredIsNobodysElse(t *testing.T) {
	for _, l := range lives() {
		want := l.epochs(t)
		m := l.made(t)
		all := m.All()
		for range 3 {
			b := m.Bytes()
			for i := range b[:cap(b)] {
				b[:cap(b)][i] = 255
			}
			for e := range all {
				e.Number, e.States[0] = -1, 9
			}
			e := m.Current()
			e.States[0] = 9
			e, _ = m.At(0)
			e.Seals[0] = 9
			for i := range slices.Collect(all) {
				slices.Collect(all)[i] = ofAll()
			}
			wantMachine(t, "what was answered is written to", m, want)
			wantEpochs(t, "what was answered is written to", slices.Collect(all), want)
		}
		last := m.Current()
		members := epoch.Members(last)
		for i := range members {
			members[i] = -1
		}
		wantEpoch(t, "Members is written to", m.Current(), last)
		wantMembers(t, last, epoch.Members(want[len(want)-1]))
	}
}

// TestArgumentsAreNotWrittenTo: epochs and vectors are values, and stay what they were.
func TestArgumentsAreNotWrittenTo(t *testing.T) {
	for _, e := range several() {
		was, v := e, api.Vector{latest, latest, latest, latest, latest, latest, latest, latest}
		for x := range modelEntries(e) {
			next, _ := epoch.Apply(e, x)
			epoch.Follows(e, next)
		}
		epoch.Check(e)
		epoch.Members(e)
		epoch.Sealed(e, v)
		wantEpoch(t, "an argument", e, was)
		if v != (api.Vector{latest, latest, latest, latest, latest, latest, latest, latest}) {
			t.Error("Sealed writes to its vector")
		}
	}
}

// TestIteratorsTellWhatWasThere: whatever is applied behind the asking, even in the midst of the telling, to the machine or to its clone.
func TestIteratorsTellWhatWasThere(t *testing.T) {
	l := longest()
	want := l.epochs(t)
	for asked := range want {
		m := life{l.members, l.entries[:asked]}.made(t)
		c := m.Clone()
		all, behind := m.All(), c.All()
		for stop := range asked + 1 {
			d := m.Clone()
			midst, at := d.All(), 0
			for e := range midst {
				if at == stop {
					applyAll(t, d, l.entries[asked:])
				}
				wantEpoch(t, "applied in the midst", e, want[at])
				at++
			}
			if at != asked+1 {
				t.Errorf("applied in the midst, at %d: %d epochs are told of %d", stop, at, asked+1)
			}
			wantEpochs(t, "applied in the midst, again", slices.Collect(midst), want[:asked+1])
			wantEpochs(t, "asked anew", slices.Collect(d.All()), want)
		}
		applyAll(t, m, l.entries[asked:])
		wantEpochs(t, "applied behind the asking", slices.Collect(all), want[:asked+1])
		wantEpochs(t, "applied to the other one", slices.Collect(behind), want[:asked+1])
		wantEpochs(t, "asked anew", slices.Collect(m.All()), want)
		wantEpochs(t, "again", slices.Collect(all), want[:asked+1])
	}
}

func applyAll(t *testing.T, m *epoch.Machine, entries []api.Entry) {
	t.Helper()
	for _, x := range entries {
		wantErr(t, "Apply", m.Apply(x), api.OK)
	}
}

// R6.

func TestSameCallsAnswerTheSame(t *testing.T) {
	run := func() []string {
		s := source(7)
		p := &pair{&s, newOne(t, 2, 5), []api.Epoch{epochOf(0, isNone, isNone, isMember, isNone, isNone, isMember)}}
		var answers []string
		for range 300 {
			what, err, _ := p.step()
			answers = append(answers, fmt.Sprint(what, err, look(t, p.m)))
		}
		return answers
	}
	answers := run()
	for range 5 {
		if !slices.Equal(run(), answers) {
			t.Fatal("the same calls answer otherwise")
		}
	}
}

// THE BOUND: one that is not near-linear would take many times as long.

const longTime = 20 * time.Second

func wantSoon(t *testing.T, what string, call func()) {
	t.Helper()
	begun := time.Now()
	call()
	if took := time.Since(begun); took > longTime {
		t.Errorf("%s took %v", what, took)
	}
}

func TestManyMembers(t *testing.T) {
	const many = 5_000_000
	l := make([]int, many)
	for _, want := range []api.Errno{errTwice, errArg} {
		wantSoon(t, "Start of many", func() {
			_, err := epoch.Start(l...)
			wantErr(t, "Start of many", err, want)
			_, err = epoch.New(l...)
			wantErr(t, "New of many", err, want)
		})
		l[many-1] = sites
	}
}

func TestManyBytes(t *testing.T) {
	// The count says more than there is, and each epoch that there is is the same.
	b := append(modelInt(math.MaxInt64), slices.Repeat(modelBytes(epochOf(0, isMember))[1:], 200_000)...)
	wantSoon(t, "Load of many epochs", func() { wantNoLoad(t, "many epochs", b) })
	l := longest().made(t).Bytes()
	wantSoon(t, "Load of many bytes behind", func() { wantNoLoad(t, "many bytes", append(l, make([]byte, 5_000_000)...)) })
}

func TestManyEntries(t *testing.T) {
	const many = 200_000
	l := longest()
	m := l.made(t)
	wantSoon(t, "many entries", func() {
		for range many {
			m.Apply(api.Entry{})
			m.Apply(leave(7))
			m.Current()
			m.At(21)
		}
	})
	wantSoon(t, "many clones, and their bytes", func() {
		for range many / 20 {
			if c, err := epoch.Load(m.Clone().Bytes()); err != api.OK || c.Current() != m.Current() {
				t.Fatal("what is loaded is another one")
			}
		}
	})
}
