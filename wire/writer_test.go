package wire_test

import (
	"bytes"
	"strings"
	"testing"

	"orchard/api"
	"orchard/wire"
)

// P1.1: a writer.

func TestWriterBeginsWithNothing(t *testing.T) {
	w := wire.NewWriter()
	if w == nil {
		t.Fatal("NewWriter is nil")
	}
	if w.Len() != 0 || len(w.Out()) != 0 {
		t.Error("a new writer has", w.Len(), w.Out())
	}
}

func TestWriterInt(t *testing.T) {
	for _, f := range intForms() {
		got := written(t, func(w *wire.Writer) api.Errno { return w.Int(f.n) })
		wantBytes(t, "Int", got, f.b)
	}
}

func TestWriterBytesTextFlag(t *testing.T) {
	long := bytes.Repeat([]byte{7}, 64)
	cases := []struct {
		name string
		put  func(w *wire.Writer) api.Errno
		want []byte
	}{
		{"Bytes of nil", func(w *wire.Writer) api.Errno { return w.Bytes(nil) }, []byte{0}},
		{"Bytes of none", func(w *wire.Writer) api.Errno { return w.Bytes([]byte{}) }, []byte{0}},
		{"Bytes", func(w *wire.Writer) api.Errno { return w.Bytes([]byte{0, 255}) }, []byte{4, 0, 255}},
		{"64 Bytes", func(w *wire.Writer) api.Errno { return w.Bytes(long) }, append([]byte{128, 1}, long...)},
		{"Text of none", func(w *wire.Writer) api.Errno { return w.Text("") }, []byte{0}},
		{"Text", func(w *wire.Writer) api.Errno { return w.Text("a") }, []byte{2, 97}},
		{"Text of any bytes", func(w *wire.Writer) api.Errno { return w.Text("\xff\x00\x80") }, []byte{6, 255, 0, 128}},
		{"Text of a rune", func(w *wire.Writer) api.Errno { return w.Text("\u00e9") }, []byte{4, 0xc3, 0xa9}},
		{"Flag no", func(w *wire.Writer) api.Errno { return w.Flag(false) }, []byte{0}},
		{"Flag yes", func(w *wire.Writer) api.Errno { return w.Flag(true) }, []byte{2}},
	}
	for _, c := range cases {
		wantBytes(t, c.name, written(t, c.put), c.want)
	}
}

func TestWriterPutsBehind(t *testing.T) {
	w := wire.NewWriter()
	steps := []struct {
		put  func() api.Errno
		want []byte
	}{
		{func() api.Errno { return w.Int(-1) }, []byte{1}},
		{func() api.Errno { return w.Text("ab") }, []byte{1, 4, 97, 98}},
		{func() api.Errno { return w.Flag(true) }, []byte{1, 4, 97, 98, 2}},
		{func() api.Errno { return w.Bytes([]byte{9}) }, []byte{1, 4, 97, 98, 2, 2, 9}},
	}
	for i, s := range steps {
		wantErr(t, "put", s.put(), api.OK)
		if w.Len() != len(s.want) {
			t.Errorf("Len behind step %d: %d, want %d", i, w.Len(), len(s.want))
		}
		wantBytes(t, "Out", w.Out(), s.want)
	}
}

// lengthBytes is how many bytes the length of nearly MaxBytes bytes has.
const lengthBytes = 3

func filled(t *testing.T, n int) *wire.Writer {
	t.Helper()
	w := wire.NewWriter()
	wantErr(t, "Bytes", w.Bytes(make([]byte, n-lengthBytes)), api.OK)
	if w.Len() != n {
		t.Fatalf("a writer with %d bytes, want %d", w.Len(), n)
	}
	return w
}

func TestWriterUpToMaxBytes(t *testing.T) {
	cases := []struct {
		name string
		size int
		put  func(w *wire.Writer) api.Errno
	}{
		{"Int of one byte", 1, func(w *wire.Writer) api.Errno { return w.Int(63) }},
		{"Int of two", 2, func(w *wire.Writer) api.Errno { return w.Int(64) }},
		{"Int of ten", 10, func(w *wire.Writer) api.Errno { return w.Int(-1 << 63) }},
		{"Flag", 1, func(w *wire.Writer) api.Errno { return w.Flag(true) }},
		{"Bytes of none", 1, func(w *wire.Writer) api.Errno { return w.Bytes(nil) }},
		{"Bytes", 6, func(w *wire.Writer) api.Errno { return w.Bytes([]byte("abcde")) }},
		{"Text", 66, func(w *wire.Writer) api.Errno { return w.Text(strings.Repeat("x", 64)) }},
	}
	for _, c := range cases {
		fits := filled(t, api.MaxBytes-c.size)
		wantErr(t, c.name+" that fits", c.put(fits), api.OK)
		if fits.Len() != api.MaxBytes {
			t.Error(c.name, "that fits leaves", fits.Len())
		}
		short := filled(t, api.MaxBytes-c.size+1)
		before := short.Out()
		wantErr(t, c.name+" that does not fit", c.put(short), api.ErrLong)
		if short.Len() != len(before) || !bytes.Equal(short.Out(), before) {
			t.Error(c.name, "that does not fit has put something")
		}
	}
}

func TestWriterGoesOnBehindErrLong(t *testing.T) {
	w := filled(t, api.MaxBytes-1)
	wantErr(t, "Int of two bytes", w.Int(64), api.ErrLong)
	wantErr(t, "Int of one byte", w.Int(5), api.OK)
	wantErr(t, "Int of a full writer", w.Int(0), api.ErrLong)
	out := w.Out()
	if len(out) != api.MaxBytes || out[len(out)-1] != 10 {
		t.Error("a full writer has", len(out), "bytes")
	}
}

func TestWriterOfOneList(t *testing.T) {
	most := api.MaxBytes - lengthBytes
	for _, n := range []int{most + 1, api.MaxBytes, api.MaxBytes + 1, 3 * api.MaxBytes} {
		w := wire.NewWriter()
		wantErr(t, "Bytes", w.Bytes(make([]byte, n)), api.ErrLong)
		wantErr(t, "Text", w.Text(string(make([]byte, n))), api.ErrLong)
		if w.Len() != 0 {
			t.Error("a list too long has put", w.Len())
		}
	}
	w := wire.NewWriter()
	wantErr(t, "Text", w.Text(string(make([]byte, most))), api.OK)
	if w.Len() != api.MaxBytes {
		t.Error("the longest text has", w.Len(), "bytes")
	}
}

func TestWriterOfManyInts(t *testing.T) {
	w := wire.NewWriter()
	for i := range api.MaxBytes {
		if err := w.Int(0); err != api.OK {
			t.Fatal("Int", i, err)
		}
	}
	wantErr(t, "one more", w.Int(0), api.ErrLong)
	if w.Len() != api.MaxBytes || len(w.Out()) != api.MaxBytes {
		t.Error("Len", w.Len())
	}
}
