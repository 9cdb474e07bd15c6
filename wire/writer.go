package wire

import (
	"bytes"

	"orchard/api"
)

// Writer gathers ints, texts and lists of bytes, MaxBytes bytes in all at most.
type Writer struct {
	made bool
	out  []byte
}

// NewWriter is a writer that has nothing yet.
func NewWriter() *Writer { return &Writer{made: true} }

func (w *Writer) isMade() bool { return w != nil && w.made }

// Int puts an int.
func (w *Writer) Int(n int64) api.Errno { return w.put(n, nil) }

// Bytes puts a list of bytes, with its length ahead of it.
func (w *Writer) Bytes(b []byte) api.Errno { return w.put(int64(len(b)), b) }

// Text puts a text as its bytes.
func (w *Writer) Text(s string) api.Errno { return w.Bytes([]byte(s)) }

// Flag puts the int 1 for yes, else 0.
func (w *Writer) Flag(yes bool) api.Errno {
	if yes {
		return w.Int(1)
	}
	return w.Int(0)
}

// put puts an int and what stands behind it, both or neither.
func (w *Writer) put(n int64, behind []byte) api.Errno {
	if !w.isMade() {
		return api.ErrMade
	}
	var room [maxIntBytes]byte
	head := appendInt(room[:0], n)
	if len(head)+len(behind) > api.MaxBytes-len(w.out) {
		return api.ErrLong
	}
	w.out = append(w.out, head...)
	w.out = append(w.out, behind...)
	return api.OK
}

// Len is how many bytes were put.
func (w *Writer) Len() int {
	if !w.isMade() {
		return 0
	}
	return len(w.out)
}

// Out are the bytes that were put.
func (w *Writer) Out() []byte {
	if !w.isMade() {
		return nil
	}
	return bytes.Clone(w.out)
}
