package wire_test

import (
	"bytes"
	"testing"

	"orchard/api"
	"orchard/wire"
)

// R2, R3 and R5 of the document, as far as they speak of wire. (That with an error the other results are zero, and that nothing has changed, is asked beside each error, too.)

func TestWriterThatNoCallMade(t *testing.T) {
	for _, w := range []*wire.Writer{nil, {}, new(wire.Writer)} {
		wantErr(t, "Int", w.Int(1), api.ErrMade)
		wantErr(t, "Bytes", w.Bytes([]byte{1}), api.ErrMade)
		wantErr(t, "Text", w.Text("a"), api.ErrMade)
		wantErr(t, "Flag", w.Flag(true), api.ErrMade)
		wantErr(t, "Bytes too long", w.Bytes(make([]byte, api.MaxBytes+1)), api.ErrMade)
		if w.Len() != 0 || len(w.Out()) != 0 {
			t.Error("it has", w.Len(), w.Out())
		}
	}
}

func TestReaderThatNoCallMade(t *testing.T) {
	for _, r := range []*wire.Reader{nil, {}, new(wire.Reader)} {
		n, err := r.Int()
		if n != 0 || err != api.ErrMade {
			t.Error("Int", n, err)
		}
		b, err := r.Bytes()
		if len(b) != 0 || err != api.ErrMade {
			t.Error("Bytes", b, err)
		}
		s, err := r.Text()
		if s != "" || err != api.ErrMade {
			t.Error("Text", s, err)
		}
		yes, err := r.Flag()
		if yes || err != api.ErrMade {
			t.Error("Flag", yes, err)
		}
		wantErr(t, "End", r.End(), api.ErrMade)
		if r.Left() != 0 {
			t.Error("Left", r.Left())
		}
	}
}

// spoil writes over a list, up to its capacity: who shares a part of it sees that.
func spoil(b []byte) {
	b = b[:cap(b)]
	for i := range b {
		b[i] = 0x55
	}
}

func TestWriterSharesNothing(t *testing.T) {
	w := wire.NewWriter()
	given := []byte{1, 2, 3}
	wantErr(t, "Bytes", w.Bytes(given), api.OK)
	wantBytes(t, "what was handed in", given, []byte{1, 2, 3})
	spoil(given)
	first := w.Out()
	wantBytes(t, "Out behind a change of what was handed in", first, []byte{6, 1, 2, 3})
	second := w.Out()
	spoil(first)
	wantBytes(t, "Out answered earlier", second, []byte{6, 1, 2, 3})
	wantErr(t, "Int", w.Int(4), api.OK)
	wantBytes(t, "Out behind a change of an answer", w.Out(), []byte{6, 1, 2, 3, 8})
	wantBytes(t, "Out answered ahead of Int", second, []byte{6, 1, 2, 3})
}

func TestReaderSharesNothing(t *testing.T) {
	given := []byte{4, 7, 8, 4, 9, 10, 4, 97, 98, 2}
	r := wire.NewReader(given)
	other := wire.NewReader(given)
	spoil(given)
	first, err := r.Bytes()
	wantErr(t, "Bytes", err, api.OK)
	wantBytes(t, "Bytes", first, []byte{7, 8})
	spoil(first)
	second, err := r.Bytes()
	wantErr(t, "Bytes behind a change of an answer", err, api.OK)
	wantBytes(t, "Bytes behind a change of an answer", second, []byte{9, 10})
	text, err := r.Text()
	if text != "ab" || err != api.OK {
		t.Error("Text", text, err)
	}
	spoil(second)
	if yes, err := r.Flag(); !yes || err != api.OK || text != "ab" {
		t.Error("Flag", yes, err, text)
	}
	again, err := other.Bytes()
	wantErr(t, "Bytes of another reader", err, api.OK)
	wantBytes(t, "Bytes of another reader", again, []byte{7, 8})
}

func TestFramesShareNothing(t *testing.T) {
	given := []byte{1, 2, 3}
	room := append(make([]byte, 0, 64), given...)
	f := frame(t, room)
	wantBytes(t, "behind what was handed in", room[:10], []byte{1, 2, 3, 0, 0, 0, 0, 0, 0, 0})
	want := bytes.Clone(f)
	spoil(room)
	wantBytes(t, "Frame behind a change of what was handed in", f, want)
	got, _, err := wire.Unframe(f)
	wantErr(t, "Unframe", err, api.OK)
	wantBytes(t, "what was handed to Unframe", f, want)
	spoil(got)
	wantBytes(t, "the frame behind a change of the answer", f, want)
	got, _, err = wire.Unframe(f)
	wantErr(t, "Unframe again", err, api.OK)
	spoil(f)
	wantBytes(t, "Unframe behind a change of what was handed in", got, given)
}

func TestSumWritesNothing(t *testing.T) {
	a, b := []byte("123"), []byte("456789")
	l := [][]byte{a, b}
	wire.Sum(l...)
	wantBytes(t, "the first list", a, []byte("123"))
	wantBytes(t, "the second list", b, []byte("456789"))
	if len(l) != 2 {
		t.Error("the lists", l)
	}
}

// TestTheSameAgain: R6, the same calls answer the same.
func TestTheSameAgain(t *testing.T) {
	s := source(23)
	b := s.bytes(1000)
	if wire.Sum(b) != wire.Sum(bytes.Clone(b)) {
		t.Error("Sum")
	}
	wantBytes(t, "Frame", frame(t, b), frame(t, bytes.Clone(b)))
}
