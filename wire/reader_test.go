package wire_test

import (
	"bytes"
	"math"
	"testing"

	"orchard/api"
	"orchard/wire"
)

// P1.2: a reader.

func TestReaderInt(t *testing.T) {
	for _, f := range intForms() {
		r := wire.NewReader(append(bytes.Clone(f.b), 0, 200))
		n, err := r.Int()
		if n != f.n || err != api.OK {
			t.Errorf("Int of %v: %d %d, want %d", f.b, n, err, f.n)
		}
		if r.Left() != 2 {
			t.Errorf("Int of %v leaves %d", f.b, r.Left())
		}
	}
}

// wrongInt is what does not begin with an int.
type wrongInt struct {
	b   []byte
	err api.Errno
}

func wrongInts() []wrongInt {
	nine := bytes.Repeat([]byte{255}, 9)
	tenth := func(l ...byte) []byte { return append(bytes.Clone(nine), l...) }
	return []wrongInt{
		{nil, api.ErrEnds},
		{[]byte{}, api.ErrEnds},
		{[]byte{128}, api.ErrEnds},
		{[]byte{255, 255}, api.ErrEnds},
		{[]byte{128, 128, 128}, api.ErrEnds},
		{nine, api.ErrEnds},
		{[]byte{128, 0}, api.ErrForm},
		{[]byte{255, 0}, api.ErrForm},
		{[]byte{128, 128, 0}, api.ErrForm},
		{[]byte{129, 128, 0, 5}, api.ErrForm},
		{tenth(0), api.ErrForm},
		{tenth(2), api.ErrForm},
		{tenth(3), api.ErrForm},
		{tenth(127), api.ErrForm},
		{tenth(128), api.ErrForm},
		{tenth(129), api.ErrForm},
		{tenth(129, 0), api.ErrForm},
		{tenth(255, 255, 255), api.ErrForm},
	}
}

func TestReaderWrongInt(t *testing.T) {
	for _, c := range wrongInts() {
		r := wire.NewReader(c.b)
		n, err := r.Int()
		if n != 0 || err != c.err {
			t.Errorf("Int of %v: %d %d, want error %d", c.b, n, err, c.err)
		}
		b, err := r.Bytes()
		if len(b) != 0 || err != c.err {
			t.Errorf("Bytes of %v: %v %d, want error %d", c.b, b, err, c.err)
		}
		s, err := r.Text()
		if s != "" || err != c.err {
			t.Errorf("Text of %v: %q %d, want error %d", c.b, s, err, c.err)
		}
		yes, err := r.Flag()
		if yes || err != c.err {
			t.Errorf("Flag of %v: %v %d, want error %d", c.b, yes, err, c.err)
		}
		if r.Left() != len(c.b) {
			t.Errorf("an error at %v leaves %d", c.b, r.Left())
		}
	}
}

func TestReaderTenthByte(t *testing.T) {
	for x := range 256 {
		b := append(bytes.Repeat([]byte{128}, 9), byte(x))
		n, err := wire.NewReader(b).Int()
		if x == 1 {
			if n != 1<<62 || err != api.OK {
				t.Error("the tenth byte 1:", n, err)
			}
			continue
		}
		if n != 0 || err != api.ErrForm {
			t.Error("the tenth byte", x, "answers", n, err)
		}
	}
}

func TestReaderBytesAndText(t *testing.T) {
	long := bytes.Repeat([]byte{'q'}, 300)
	for _, want := range [][]byte{nil, {0}, {255, 0, 128}, []byte("a"), long} {
		form := written(t, func(w *wire.Writer) api.Errno { return w.Bytes(want) })
		behind := append(bytes.Clone(form), 1, 2, 3)
		r := wire.NewReader(behind)
		b, err := r.Bytes()
		if !bytes.Equal(b, want) || err != api.OK || r.Left() != 3 {
			t.Error("Bytes", b, err, r.Left())
		}
		r = wire.NewReader(behind)
		s, err := r.Text()
		if s != string(want) || err != api.OK || r.Left() != 3 {
			t.Error("Text", s, err, r.Left())
		}
	}
}

func TestReaderWrongLength(t *testing.T) {
	length := func(n int64, behind ...byte) []byte {
		return append(written(t, func(w *wire.Writer) api.Errno { return w.Int(n) }), behind...)
	}
	cases := []struct {
		b   []byte
		err api.Errno
	}{
		{length(-1), api.ErrForm},
		{length(-1, 5, 6), api.ErrForm},
		{length(math.MinInt64), api.ErrForm},
		{length(1), api.ErrEnds},
		{length(3, 5, 6), api.ErrEnds},
		{length(api.MaxBytes, 5, 6), api.ErrEnds},
		{length(math.MaxInt64, 5, 6), api.ErrEnds},
		{length(math.MaxInt64-9, 5, 6), api.ErrEnds},
		{length(1<<32, 5, 6), api.ErrEnds},
	}
	for _, c := range cases {
		r := wire.NewReader(c.b)
		b, err := r.Bytes()
		if len(b) != 0 || err != c.err || r.Left() != len(c.b) {
			t.Errorf("Bytes of %v: %v %d, %d left, want error %d", c.b, b, err, r.Left(), c.err)
		}
		s, err := r.Text()
		if s != "" || err != c.err || r.Left() != len(c.b) {
			t.Errorf("Text of %v: %q %d, %d left, want error %d", c.b, s, err, r.Left(), c.err)
		}
	}
}

func TestReaderFlag(t *testing.T) {
	cases := []struct {
		b    byte
		want bool
		err  api.Errno
	}{
		{0, false, api.OK},
		{2, true, api.OK},
		{1, false, api.ErrForm},
		{3, false, api.ErrForm},
		{4, false, api.ErrForm},
		{127, false, api.ErrForm},
	}
	for _, c := range cases {
		r := wire.NewReader([]byte{c.b, 9})
		got, err := r.Flag()
		left := 1
		if c.err != api.OK {
			left = 2
		}
		if got != c.want || err != c.err || r.Left() != left {
			t.Errorf("Flag of %d: %v %d, %d left", c.b, got, err, r.Left())
		}
	}
	for _, f := range intForms() {
		_, err := wire.NewReader(f.b).Flag()
		if (err == api.OK) != (f.n == 0 || f.n == 1) {
			t.Errorf("Flag of the int %d: error %d", f.n, err)
		}
	}
}

// TestReaderStandsWhereItStood asks on behind each error, in the middle of the bytes.
func TestReaderStandsWhereItStood(t *testing.T) {
	r := wire.NewReader([]byte{6, 1, 128})
	if n, err := r.Int(); n != 3 || err != api.OK {
		t.Fatal("Int", n, err)
	}
	_, err := r.Bytes()
	wantErr(t, "Bytes below 0", err, api.ErrForm)
	_, err = r.Text()
	wantErr(t, "Text below 0", err, api.ErrForm)
	_, err = r.Flag()
	wantErr(t, "Flag below 0", err, api.ErrForm)
	if n, err := r.Int(); n != -1 || err != api.OK {
		t.Error("Int behind errors", n, err)
	}
	_, err = r.Int()
	wantErr(t, "Int that ends", err, api.ErrEnds)
	wantErr(t, "End", r.End(), api.ErrMore)
	if r.Left() != 1 {
		t.Error("Left", r.Left())
	}
}

func TestReaderLeftAndEnd(t *testing.T) {
	for _, b := range [][]byte{nil, {}} {
		r := wire.NewReader(b)
		if r == nil {
			t.Fatal("NewReader is nil")
		}
		wantErr(t, "End of nothing", r.End(), api.OK)
		if r.Left() != 0 {
			t.Error("Left of nothing", r.Left())
		}
	}
	r := wire.NewReader([]byte{0, 2, 97})
	left := []int{3, 2, 0}
	takes := []func(){func() { r.Int() }, func() { r.Text() }, func() {}}
	for i, take := range takes {
		if r.Left() != left[i] {
			t.Error("Left", r.Left(), "want", left[i])
		}
		want := api.ErrMore
		if left[i] == 0 {
			want = api.OK
		}
		wantErr(t, "End", r.End(), want)
		take()
	}
}

// TestReaderHasNoLimit: MaxBytes is the writer's and the frames' limit alone.
func TestReaderHasNoLimit(t *testing.T) {
	n := api.MaxBytes + 1
	b := written(t, func(w *wire.Writer) api.Errno { return w.Int(int64(n)) })
	b = append(b, make([]byte, n)...)
	got, err := wire.NewReader(b).Bytes()
	if len(got) != n || err != api.OK {
		t.Error("Bytes", len(got), err)
	}
}
