package epoch_test

import (
	"fmt"
	"math"
	"slices"
	"testing"

	"orchard/api"
	"orchard/epoch"
)

// P17.4: Bytes and Load.

func loaded(t *testing.T, b []byte) *epoch.Machine {
	t.Helper()
	m, err := epoch.Load(b)
	if m == nil || err != api.OK {
		t.Fatalf("Load of %v: %v, error %d", b, m, err)
	}
	return m
}

func wantNoLoad(t *testing.T, what string, b []byte) {
	t.Helper()
	if m, err := epoch.Load(b); m != nil || err != errArg {
		t.Errorf("Load, %s, of %v: %v, error %d, want none and %d", what, b, m, err, errArg)
	}
}

// wantLoad: what Load answers is what the model's telling says of it.
func wantLoad(t *testing.T, what string, b []byte) bool {
	t.Helper()
	l, ok := modelLoad(b)
	if !ok {
		wantNoLoad(t, what, b)
		return false
	}
	wantMachine(t, what, loaded(t, b), l)
	return true
}

func TestBytes(t *testing.T) {
	m := newOne(t, 6, 1)
	want := []byte{2,
		0, 0, 2, 0, 0, 0, 0, 2, 0, 0, 0, 0, 0, 0, 0, 0, 0, 1, 1, 1, 1, 1, 1, 1, 1}
	if !slices.Equal(m.Bytes(), want) {
		t.Error("Bytes is", m.Bytes())
	}
	for _, x := range []api.Entry{join(7, 1), leave(6), sealed(6, 64)} {
		wantErr(t, "Apply", m.Apply(x), api.OK)
	}
	want = slices.Concat([]byte{8}, want[1:],
		[]byte{2, 0, 2, 0, 0, 0, 0, 2, 2, 0, 0, 0, 0, 0, 0, 0, 0, 1, 1, 1, 1, 1, 1, 1, 2},
		[]byte{4, 0, 2, 0, 0, 0, 0, 4, 2, 0, 0, 0, 0, 0, 0, 0, 0, 1, 1, 1, 1, 1, 1, 1, 2},
		[]byte{6, 0, 2, 0, 0, 0, 0, 6, 2, 0, 0, 0, 0, 0, 0, 128, 1, 0, 1, 1, 1, 1, 1, 1, 1, 2})
	if !slices.Equal(m.Bytes(), want) {
		t.Error("Bytes is", m.Bytes())
	}
	wantMachine(t, "Load", loaded(t, want), look(t, m))
}

// TestLoadOfBytes: the machine again, at each of its epochs, and it goes on as the machine does.
func TestLoadOfBytes(t *testing.T) {
	for _, l := range lives() {
		m := newOne(t, l.members...)
		for i := 0; ; i++ {
			c := loaded(t, m.Bytes())
			wantMachine(t, "Load", c, look(t, m))
			for _, x := range l.entries[i:] {
				wantErr(t, "Apply to what is loaded", c.Apply(x), api.OK)
			}
			wantMachine(t, "what is loaded goes on", c, l.epochs(t))
			if i == len(l.entries) {
				break
			}
			wantErr(t, "Apply", m.Apply(l.entries[i]), api.OK)
		}
	}
}

func TestLoadOfBeginnings(t *testing.T) {
	wantNoLoad(t, "nothing", nil)
	wantNoLoad(t, "nothing", []byte{})
	for _, l := range lives() {
		b := l.made(t).Bytes()
		for size := range b {
			wantNoLoad(t, "cut short", b[:size])
			wantNoLoad(t, "without its beginning", b[len(b)-size:])
		}
	}
}

func TestLoadOfMore(t *testing.T) {
	for _, l := range lives() {
		b := l.made(t).Bytes()
		for more := range 256 {
			wantNoLoad(t, "longer", append(slices.Clone(b), byte(more)))
		}
		wantNoLoad(t, "twice", slices.Concat(b, b))
		wantNoLoad(t, "with an epoch more", slices.Concat(b, b[len(b)-25:]))
	}
}

// TestLoadOfOtherCounts: the epochs are there, how many there are is another number.
func TestLoadOfOtherCounts(t *testing.T) {
	for _, l := range lives() {
		epochs := l.epochs(t)
		behind := modelBytes(epochs...)[1:]
		many := int64(len(epochs))
		for _, n := range []int64{math.MinInt64, -many, -1, 0, 1, many - 1, many, many + 1, 2 * many, maxEpochs, maxEpochs + 1, 1 << 33, math.MaxInt64} {
			b := append(modelInt(n), behind...)
			if n == many {
				wantMachine(t, "Load", loaded(t, b), epochs)
				continue
			}
			wantNoLoad(t, "another count", b)
		}
		for _, n := range []int64{math.MinInt64, -1, 0, 1, 2, maxEpochs, math.MaxInt64} {
			wantNoLoad(t, "a count alone", modelInt(n))
		}
	}
}

// TestLoadOfOtherFirsts: a first epoch that New does not make, alone and with one that follows it.
func TestLoadOfOtherFirsts(t *testing.T) {
	for _, e := range []api.Epoch{
		epochOf(1, isMember, isMember), epochOf(maxEpochs-1, isMember, isMember), epochOf(0, isMember, by(member, 0)), epochOf(0, by(member, 3), isMember),
		epochOf(0, isLeaving, isMember), epochOf(0, isMember, isMember, by(leaving, 1)), epochOf(0, isMember, retiredAt(0, -1), isMember),
		epochOf(0, isMember, retiredAt(9, 2), isMember), ofAll(), epochOf(0), epochOf(0, isLeaving), {},
	} {
		wantNoLoad(t, "another first epoch", modelBytes(e))
		for x := range modelEntries(e) {
			if next, err := modelApply(e, x); err == api.OK {
				wantNoLoad(t, "another first epoch", modelBytes(e, next))
			}
		}
	}
	for _, e := range unlikely() {
		wantNoLoad(t, "a first epoch that may not be", modelBytes(e))
	}
}

// TestLoadOfOtherLists: epochs that are left out, doubled, changed for one another, or of another life.
func TestLoadOfOtherLists(t *testing.T) {
	for _, l := range lives() {
		epochs := l.epochs(t)
		for i := range epochs {
			wantLoad(t, "one left out", modelBytes(slices.Delete(slices.Clone(epochs), i, i+1)...))
			wantNoLoad(t, "one doubled", modelBytes(slices.Insert(slices.Clone(epochs), i, epochs[i])...))
			for j := range i {
				c := slices.Clone(epochs)
				c[i], c[j] = c[j], c[i]
				wantNoLoad(t, "two changed for one another", modelBytes(c...))
			}
			for _, e := range append(several(), unlikely()...) {
				for _, number := range []int64{e.Number, int64(i)} {
					c := slices.Clone(epochs)
					c[i] = numbered(e, number)
					wantLoad(t, "one of another life", modelBytes(c...))
				}
			}
		}
		if len(epochs) > 1 {
			wantNoLoad(t, "the first one left out", modelBytes(epochs[1:]...))
			wantNoLoad(t, "two lives", modelBytes(slices.Concat(epochs, epochs)...))
		}
	}
	wantNoLoad(t, "nothing happens", modelBytes(epochOf(0, isMember), epochOf(1, isMember)))
	wantNoLoad(t, "two join at once", modelBytes(epochOf(0, isMember), epochOf(1, isMember, by(member, 0), by(member, 0))))
	wantNoLoad(t, "the last one leaves", modelBytes(epochOf(0, isMember), epochOf(1, isLeaving)))
}

// TestLoadOfOtherInts: each number of a form is changed for others.
func TestLoadOfOtherInts(t *testing.T) {
	numbers := append(lengthNumbers(), -3, 3, 4, 5, 6, 7, 8, 9, maxEpochs-1, maxEpochs)
	goes := 0
	for _, l := range lives()[:7] {
		ints, ok := modelInts(modelBytes(l.epochs(t)...))
		if !ok {
			t.Fatal("the form is not made of ints")
		}
		for i, was := range ints {
			for _, n := range append([]int64{was - 1, was + 1}, numbers...) {
				ints[i] = n
				var b []byte
				for _, k := range ints {
					b = append(b, modelInt(k)...)
				}
				if wantLoad(t, fmt.Sprintf("its number %d is %d", i, n), b) && n != was {
					goes++
				}
			}
			ints[i] = was
		}
	}
	if goes == 0 {
		t.Error("no form with another number is a machine's")
	}
}

// TestLoadOfOtherBytes: each byte of a form is changed for every other one.
func TestLoadOfOtherBytes(t *testing.T) {
	for _, l := range lives()[:5] {
		b := l.made(t).Bytes()
		for i, was := range b {
			for n := range 256 {
				b[i] = byte(n)
				wantLoad(t, fmt.Sprintf("its byte %d is %d", i, n), b)
			}
			b[i] = was
		}
	}
}

// TestLoadOfLongInts: numbers that are written with more bytes than they need.
func TestLoadOfLongInts(t *testing.T) {
	b := lives()[4].made(t).Bytes()
	for i, n := range b {
		if n < 128 {
			wantNoLoad(t, "a long int", slices.Concat(b[:i], []byte{n | 128, 0}, b[i+1:]))
			wantNoLoad(t, "a long int", slices.Concat(b[:i], []byte{n | 128, 128, 128, 128, 128, 128, 128, 128, 128, 128, 0}, b[i+1:]))
		}
	}
}

func FuzzLoad(f *testing.F) {
	for _, l := range lives() {
		e, _ := modelStart(l.members)
		all := []api.Epoch{e}
		for _, x := range l.entries {
			e, _ = modelApply(e, x)
			all = append(all, e)
		}
		f.Add(modelBytes(all...))
	}
	f.Fuzz(func(t *testing.T, b []byte) {
		if wantLoad(t, "any bytes", b) && !slices.Equal(loaded(t, b).Bytes(), b) {
			t.Errorf("Bytes of what is loaded of %v is %v", b, loaded(t, b).Bytes())
		}
	})
}
