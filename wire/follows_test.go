package wire_test

import (
	"bytes"
	"testing"

	"orchard/api"
	"orchard/wire"
)

// P1.4: what is put is read, and what is read is, put again, what was taken.

// thing is what a writer was given: one of an int, bytes, a text, a flag.
type thing struct {
	kind int
	n    int64
	b    []byte
}

func (x thing) put(w *wire.Writer) api.Errno {
	switch x.kind {
	case 0:
		return w.Int(x.n)
	case 1:
		return w.Bytes(x.b)
	case 2:
		return w.Text(string(x.b))
	}
	return w.Flag(x.n == 1)
}

func take(r *wire.Reader, kind int) (thing, api.Errno) {
	x := thing{kind: kind}
	var err api.Errno
	switch kind {
	case 0:
		x.n, err = r.Int()
	case 1:
		x.b, err = r.Bytes()
	case 2:
		var s string
		s, err = r.Text()
		x.b = []byte(s)
	default:
		var yes bool
		yes, err = r.Flag()
		if yes {
			x.n = 1
		}
	}
	return x, err
}

func (x thing) same(y thing) bool {
	return x.kind == y.kind && x.n == y.n && bytes.Equal(x.b, y.b)
}

func someThings(s *source) []thing {
	var l []thing
	for range s.next() % 40 {
		x := thing{kind: int(s.next() % 4)}
		switch x.kind {
		case 0:
			x.n = int64(s.next()<<33^s.next()<<10^s.next()) >> (s.next() % 64)
		case 3:
			x.n = int64(s.next() % 2)
		default:
			x.b = s.bytes(int(s.next() % 100))
		}
		l = append(l, x)
	}
	return l
}

func wantThereAndBack(t *testing.T, l []thing) {
	t.Helper()
	w := wire.NewWriter()
	for _, x := range l {
		wantErr(t, "put", x.put(w), api.OK)
	}
	r := wire.NewReader(w.Out())
	for _, x := range l {
		got, err := take(r, x.kind)
		if !got.same(x) || err != api.OK {
			t.Fatalf("taken %v %d, put %v", got, err, x)
		}
	}
	wantErr(t, "End", r.End(), api.OK)
}

func TestPutIsRead(t *testing.T) {
	s := source(11)
	for range 500 {
		wantThereAndBack(t, someThings(&s))
	}
	var l []thing
	for _, n := range ints() {
		l = append(l, thing{n: n})
	}
	wantThereAndBack(t, l)
}

// wantPutAgain takes a thing of each kind of b's beginning, and puts it again.
func wantPutAgain(t *testing.T, b []byte) {
	t.Helper()
	for kind := range 4 {
		r := wire.NewReader(b)
		x, err := take(r, kind)
		taken := len(b) - r.Left()
		if err != api.OK {
			if taken != 0 || !x.same(thing{kind: kind}) {
				t.Fatalf("with the error %d of %v taken %d, %v", err, b, taken, x)
			}
			continue
		}
		again := written(t, x.put)
		if !bytes.Equal(again, b[:taken]) {
			t.Fatalf("taken %v, put again %v", b[:taken], again)
		}
	}
}

func TestReadIsPutAgain(t *testing.T) {
	for i := range 1 << 16 {
		wantPutAgain(t, []byte{byte(i), byte(i >> 8)})
		wantPutAgain(t, []byte{128, byte(i), byte(i >> 8)})
	}
	s := source(17)
	for range 20000 {
		b := s.bytes(int(s.next() % 24))
		for i := range s.next() % 12 {
			if int(i) < len(b) {
				b[i] |= 128
			}
		}
		wantPutAgain(t, b)
	}
}

func FuzzReadIsPutAgain(f *testing.F) {
	for _, c := range intForms() {
		f.Add(c.b)
	}
	for _, c := range wrongInts() {
		f.Add(c.b)
	}
	f.Fuzz(func(t *testing.T, b []byte) {
		if len(b) < api.MaxBytes {
			wantPutAgain(t, b)
		}
	})
}

func FuzzUnframe(f *testing.F) {
	for _, b := range framed() {
		form, _ := wire.Frame(b)
		f.Add(form)
		f.Add(append(form, 1))
	}
	f.Fuzz(func(t *testing.T, b []byte) {
		got, n, err := wire.Unframe(b)
		if err != api.OK {
			if len(got) != 0 || n != 0 {
				t.Fatal("with the error", err, got, n)
			}
			return
		}
		again := frame(t, got)
		wantBytes(t, "framed again", again, b[:n])
	})
}
