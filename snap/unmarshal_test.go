package snap_test

import (
	"fmt"
	"math"
	"runtime"
	"slices"
	"testing"

	"orchard/api"
	"orchard/snap"
)

// P14.2: what is read of bytes, and which error is told, where several apply.

// readings are forms of states that may be, piece by piece.
func readings() map[string]pieces {
	return map[string]pieces{
		"the zero state":    piecesOf(api.Snap{}),
		"a whole state":     piecesOf(whole()),
		"the one by hand":   piecesOf(handState()),
		"a log alone":       piecesOf(withLog(20, someLog()...)),
		"kept of one alone": piecesOf(withKept(7, opsOf(7, 3, 9)...)),
		"rows alone":        piecesOf(api.Snap{Rows: someRows()}),
		"an empty part":     piecesOf(api.Snap{Parts: []api.Part{{Many: 1}}}),
	}
}

func TestUnmarshalOfWhole(t *testing.T) {
	for name, p := range readings() {
		b := p.bytes()
		wantUnmarshalErr(t, name, b, api.OK)
		for _, more := range [][]byte{{0}, {1}, {255}, {128, 0}, b} {
			wantUnmarshalErr(t, name+", and more", slices.Concat(b, more), api.ErrMore)
		}
	}
}

// TestUnmarshalOfBytesThatEnd: P14.4, at each place.
func TestUnmarshalOfBytesThatEnd(t *testing.T) {
	for name, p := range readings() {
		b := p.bytes()
		for n := range b {
			wantUnmarshalErr(t, fmt.Sprint(name, ", the first ", n, " bytes"), b[:n], api.ErrEnds)
			wantUnmarshalErr(t, fmt.Sprint(name, ", the first ", n, " bytes"), slices.Clone(b[:n]), api.ErrEnds)
		}
	}
	wantUnmarshalErr(t, "nil", nil, api.ErrEnds)
	wantUnmarshalErr(t, "no bytes", []byte{}, api.ErrEnds)
}

// otherForms are forms of an int in which wire has none.
func otherForms(b []byte) [][]byte {
	notLeast := slices.Clone(b)
	notLeast[len(notLeast)-1] |= 128
	return [][]byte{append(notLeast, 0), {128, 128, 128, 128, 128, 128, 128, 128, 128, 2}, {255, 255, 255, 255, 255, 255, 255, 255, 255, 128}}
}

func TestUnmarshalOfIntsInAnotherForm(t *testing.T) {
	for name, p := range readings() {
		for i, x := range p {
			if x.what == raw {
				continue
			}
			for _, b := range otherForms(x.b) {
				wrong := p.with(i, b)
				what := fmt.Sprint(name, ", another form of piece ", i)
				wantUnmarshalErr(t, what, wrong.bytes(), api.ErrForm)
				wantUnmarshalErr(t, what+", and nothing behind", wrong[:i+1].bytes(), api.ErrForm)
				wantUnmarshalErr(t, what+", and more", append(wrong.bytes(), 0), api.ErrForm)
			}
			wantUnmarshalErr(t, name+", an int that does not end", append(p[:i].bytes(), 128), api.ErrEnds)
		}
	}
}

func TestUnmarshalOfWrongFlags(t *testing.T) {
	for name, p := range readings() {
		for i, x := range p {
			if x.what != flag {
				continue
			}
			for _, n := range []int64{math.MinInt64, -1, 2, 3, 256, math.MaxInt64} {
				wrong := p.with(i, intForm(n))
				wantUnmarshalErr(t, fmt.Sprint(name, ", the flag ", n), wrong.bytes(), api.ErrForm)
				wantUnmarshalErr(t, fmt.Sprint(name, ", the flag ", n, ", and nothing behind"), wrong[:i+1].bytes(), api.ErrForm)
			}
			s, err := snap.Unmarshal(p.with(i, intForm(1)).bytes())
			if err != api.OK || !s.Booted {
				t.Error(name, ", the flag 1:", s.Booted, err)
			}
			s, err = snap.Unmarshal(p.with(i, intForm(0)).bytes())
			if err != api.OK || s.Booted {
				t.Error(name, ", the flag 0:", s.Booted, err)
			}
		}
	}
}

// TestUnmarshalOfWrongValues: they are told behind all errors of wire, and behind bytes that are left.
func TestUnmarshalOfWrongValues(t *testing.T) {
	for name, p := range readings() {
		for i, x := range p {
			if x.what != value {
				continue
			}
			for _, n := range []int64{math.MinInt64, -2, math.MaxInt64} {
				wrong := p.with(i, intForm(n))
				b := wrong.bytes()
				what := fmt.Sprint(name, ", ", n, " as piece ", i)
				wantUnmarshalErr(t, what, b, api.ErrSnap)
				wantUnmarshalErr(t, what+", cut off", b[:len(b)-1], api.ErrEnds)
				wantUnmarshalErr(t, what+", and more", append(b, 0), api.ErrMore)
				wantFirstErrBehind(t, what, wrong, i)
			}
		}
	}
}

// wantFirstErrBehind: of a wrong value, and a fault behind it that is told as soon as it is read, that one is told.
func wantFirstErrBehind(t *testing.T, what string, wrong pieces, at int) {
	t.Helper()
	for i := at + 1; i < len(wrong); i++ {
		switch wrong[i].what {
		case early:
			wantUnmarshalErr(t, what+", then a list of -1", wrong.with(i, intForm(-1)).bytes(), api.ErrSnap)
			wantUnmarshalErr(t, what+", then a list of -1, and no more", wrong.with(i, intForm(-1))[:i+1].bytes(), api.ErrSnap)
		case length:
			wantUnmarshalErr(t, what+", then a text of -1", wrong.with(i, intForm(-1)).bytes(), api.ErrForm)
			return
		case value:
			wantUnmarshalErr(t, what+", then another form", wrong.with(i, []byte{128, 0}).bytes(), api.ErrForm)
		}
	}
}

// TestUnmarshalOfWrongLengths: a list's length is told at once, whatever stands behind it.
func TestUnmarshalOfWrongLengths(t *testing.T) {
	for name, p := range readings() {
		for i, x := range p {
			if x.what != early {
				continue
			}
			for _, n := range []int64{math.MinInt64, -1 << 32, -members, -1, members + 1, 1 << 31, 1 << 32, 1<<32 + 1, math.MaxInt64} {
				wrong := p.with(i, intForm(n))
				what := fmt.Sprint(name, ", a list of ", n, " as piece ", i)
				wantUnmarshalErr(t, what, wrong.bytes(), api.ErrSnap)
				wantUnmarshalErr(t, what+", and nothing behind", wrong[:i+1].bytes(), api.ErrSnap)
				wantUnmarshalErr(t, what+", then another form", append(wrong[:i+1].bytes(), 128, 0), api.ErrSnap)
				wantUnmarshalErr(t, what+", and more", append(wrong.bytes(), 7), api.ErrSnap)
			}
			for _, n := range []int64{members - 1, members} {
				wrong := p.with(i, intForm(n))
				wantUnmarshalErr(t, fmt.Sprint(name, ", ", n, " that are not there, as piece ", i), wrong[:i+1].bytes(), api.ErrEnds)
			}
		}
	}
}

// TestLengthsInTheOrderOfTheForm: of two lists' lengths and an int in another form the first one is told.
func TestLengthsInTheOrderOfTheForm(t *testing.T) {
	p := piecesOf(api.Snap{})
	for i := range p {
		for j := i + 1; j < len(p); j++ {
			if p[i].what == early {
				b := p.with(i, intForm(-1)).with(j, []byte{128, 0}).bytes()
				wantUnmarshalErr(t, fmt.Sprint("a list of -1 as piece ", i, ", another form of piece ", j), b, api.ErrSnap)
			}
			if p[j].what == early {
				b := p.with(i, []byte{128, 0}).with(j, intForm(members+1)).bytes()
				wantUnmarshalErr(t, fmt.Sprint("another form of piece ", i, ", a list too long as piece ", j), b, api.ErrForm)
			}
		}
	}
}

func TestUnmarshalOfWrongTexts(t *testing.T) {
	for name, p := range readings() {
		for i, x := range p {
			if x.what != length {
				continue
			}
			what := fmt.Sprint(name, ", the text as piece ", i)
			for _, n := range []int64{-1, -2, math.MinInt64} {
				wantUnmarshalErr(t, fmt.Sprint(what, ", its length ", n), p.with(i, intForm(n)).bytes(), api.ErrForm)
			}
			for _, n := range []int64{1 << 20, 1 << 32, math.MaxInt64} {
				wantUnmarshalErr(t, fmt.Sprint(what, ", its length ", n), p.with(i, intForm(n)).bytes(), api.ErrEnds)
			}
			const more = data + 1
			long := p.with(i, intForm(more)).with(i+1, make([]byte, more)).bytes()
			wantUnmarshalErr(t, what+", too long", long, api.ErrSnap)
			wantUnmarshalErr(t, what+", too long, cut off", long[:len(long)-1], api.ErrEnds)
			wantUnmarshalErr(t, what+", too long, and more", append(long, 0), api.ErrMore)
		}
	}
}

// TestRowsThatAreTooMany: more than MaxSessions are read to their end, more than a list's members are not.
func TestRowsThatAreTooMany(t *testing.T) {
	p := piecesOf(api.Snap{Rows: rowsOf(sessions + 1)})
	b := p.bytes()
	wantUnmarshalErr(t, "a row more", b, api.ErrSnap)
	wantUnmarshalErr(t, "a row more, cut off", b[:len(b)-1], api.ErrEnds)
	wantUnmarshalErr(t, "a row more, and more", append(b, 0), api.ErrMore)
}

// TestLengthsAloneTakeNoRoom (THE BOUND): a few bytes that speak of long lists do not make them.
func TestLengthsAloneTakeNoRoom(t *testing.T) {
	for name, p := range readings() {
		for i, x := range p {
			if x.what != early && x.what != length {
				continue
			}
			n := int64(members)
			if x.what == length {
				n = 1 << 40
			}
			b := p.with(i, intForm(n))[:i+1].bytes()
			var before, behind runtime.MemStats
			runtime.ReadMemStats(&before)
			_, err := snap.Unmarshal(b)
			runtime.ReadMemStats(&behind)
			wantErr(t, "Unmarshal", err, api.ErrEnds)
			if took := behind.TotalAlloc - before.TotalAlloc; took > 1<<16 {
				t.Errorf("%s, %d as piece %d: so many bytes of memory were asked for: %d", name, n, i, took)
			}
		}
	}
}

// TestUnmarshalOfMoreThanMaxBytes: the chapter names no such limit of what is read.
func TestUnmarshalOfMoreThanMaxBytes(t *testing.T) {
	for by := range stretches() {
		s := stretched(t, by, mostForm)(3)
		got, err := snap.Unmarshal(modelForm(s))
		wantErr(t, "Unmarshal of a long form, by "+by, err, api.OK)
		wantSame(t, "Unmarshal of a long form, by "+by, got, s)
	}
}

// TestUnmarshalOfStatesThatMayNotBe: with each of the faults.
func TestUnmarshalOfStatesThatMayNotBe(t *testing.T) {
	for i, fault := range faults() {
		b := modelForm(changed(fault))
		wantUnmarshalErr(t, fmt.Sprint("the fault ", i), b, api.ErrSnap)
		wantUnmarshalErr(t, fmt.Sprint("the fault ", i, ", and more"), append(b, 0), api.ErrMore)
		for n := range b {
			wantUnmarshalErr(t, fmt.Sprint("the fault ", i, ", the first ", n, " bytes"), b[:n], api.ErrEnds)
		}
	}
}
