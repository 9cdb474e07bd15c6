package wire_test

import (
	"bytes"
	"math"
	"testing"

	"orchard/api"
	"orchard/wire"
)

// intForm is an int and its bytes, worked out by hand from the chapter's words.
type intForm struct {
	n int64
	b []byte
}

func intForms() []intForm {
	return []intForm{
		{0, []byte{0}},
		{-1, []byte{1}},
		{1, []byte{2}},
		{-2, []byte{3}},
		{63, []byte{126}},
		{-64, []byte{127}},
		{64, []byte{128, 1}},
		{-65, []byte{129, 1}},
		{8191, []byte{254, 127}},
		{-8192, []byte{255, 127}},
		{8192, []byte{128, 128, 1}},
		{api.MaxBytes, []byte{128, 128, 128, 1}},
		{1<<62 - 1, []byte{254, 255, 255, 255, 255, 255, 255, 255, 127}},
		{-1 << 62, []byte{255, 255, 255, 255, 255, 255, 255, 255, 127}},
		{1 << 62, []byte{128, 128, 128, 128, 128, 128, 128, 128, 128, 1}},
		{math.MaxInt64, []byte{254, 255, 255, 255, 255, 255, 255, 255, 255, 1}},
		{math.MinInt64, []byte{255, 255, 255, 255, 255, 255, 255, 255, 255, 1}},
	}
}

func ints() []int64 {
	l := []int64{math.MaxInt64, math.MinInt64}
	for i := range 63 {
		p := int64(1) << i
		l = append(l, p-1, p, p+1, -p, -p+1, -p-1)
	}
	return l
}

// source is a sequence that is the same in each run.
type source uint64

func (s *source) next() uint64 {
	*s = *s*6364136223846793005 + 1442695040888963407
	return uint64(*s >> 33)
}

func (s *source) bytes(n int) []byte {
	b := make([]byte, n)
	for i := range b {
		b[i] = byte(s.next())
	}
	return b
}

func wantErr(t *testing.T, what string, got, want api.Errno) {
	t.Helper()
	if got != want {
		t.Errorf("%s: error %d, want %d", what, got, want)
	}
}

func wantBytes(t *testing.T, what string, got, want []byte) {
	t.Helper()
	if !bytes.Equal(got, want) {
		t.Errorf("%s: %v, want %v", what, got, want)
	}
}

func frame(t *testing.T, b []byte) []byte {
	t.Helper()
	f, err := wire.Frame(b)
	if err != api.OK {
		t.Fatalf("Frame of %d bytes: error %d", len(b), err)
	}
	return f
}

func written(t *testing.T, put func(w *wire.Writer) api.Errno) []byte {
	t.Helper()
	w := wire.NewWriter()
	if err := put(w); err != api.OK {
		t.Fatalf("put: error %d", err)
	}
	return w.Out()
}
