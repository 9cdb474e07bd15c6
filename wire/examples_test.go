package wire_test

import (
	"testing"

	"orchard/api"
	"orchard/wire"
)

// TestChapterExamples: the examples of the chapter, as they stand there.
func TestChapterExamples(t *testing.T) {
	puts := []struct {
		name string
		put  func(w *wire.Writer) api.Errno
		want []byte
	}{
		{"Int(0)", func(w *wire.Writer) api.Errno { return w.Int(0) }, []byte{0}},
		{"Int(-1)", func(w *wire.Writer) api.Errno { return w.Int(-1) }, []byte{1}},
		{"Int(64)", func(w *wire.Writer) api.Errno { return w.Int(64) }, []byte{128, 1}},
		{"Text(a)", func(w *wire.Writer) api.Errno { return w.Text("a") }, []byte{2, 97}},
	}
	for _, c := range puts {
		wantBytes(t, c.name, written(t, c.put), c.want)
	}
	_, err := wire.NewReader([]byte{128, 0}).Int()
	wantErr(t, "Int of 128 0", err, api.ErrForm)
	if got := wire.Sum([]byte("123456789")); got != 0xcbf43926 {
		t.Errorf("Sum of 123456789: %x", got)
	}
	wantBytes(t, "Frame of nothing", frame(t, nil), []byte{0, 0, 0, 0, 0})
}
