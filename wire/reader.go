package wire

import (
	"bytes"

	"orchard/api"
)

// Reader takes ints, texts and lists of bytes from the beginning of its bytes on.
type Reader struct {
	made bool
	rest []byte
}

// NewReader is a reader of a copy of b: its owner may change b.
func NewReader(b []byte) *Reader { return &Reader{made: true, rest: bytes.Clone(b)} }

func (r *Reader) isMade() bool { return r != nil && r.made }

// Int takes an int.
func (r *Reader) Int() (int64, api.Errno) {
	if !r.isMade() {
		return 0, api.ErrMade
	}
	n, size, err := takeInt(r.rest)
	if err != api.OK {
		return 0, err
	}
	r.rest = r.rest[size:]
	return n, api.OK
}

// Bytes takes a list of bytes.
func (r *Reader) Bytes() ([]byte, api.Errno) {
	b, err := r.piece()
	return bytes.Clone(b), err
}

// Text takes a text.
func (r *Reader) Text() (string, api.Errno) {
	b, err := r.piece()
	return string(b), err
}

// piece takes a length and so many bytes, which are the reader's own: who hands them out copies them.
func (r *Reader) piece() ([]byte, api.Errno) {
	if !r.isMade() {
		return nil, api.ErrMade
	}
	n, size, err := takeLen(r.rest)
	if err != api.OK {
		return nil, err
	}
	behind := r.rest[size:]
	if n > int64(len(behind)) {
		return nil, api.ErrEnds
	}
	r.rest = behind[n:]
	return behind[:n], api.OK
}

// Flag takes a flag.
func (r *Reader) Flag() (bool, api.Errno) {
	if !r.isMade() {
		return false, api.ErrMade
	}
	n, size, err := takeInt(r.rest)
	if err != api.OK {
		return false, err
	}
	if n != 0 && n != 1 {
		return false, api.ErrForm
	}
	r.rest = r.rest[size:]
	return n == 1, api.OK
}

// Left is how many bytes are left.
func (r *Reader) Left() int {
	if !r.isMade() {
		return 0
	}
	return len(r.rest)
}

// End tells whether all bytes were taken.
func (r *Reader) End() api.Errno {
	if !r.isMade() {
		return api.ErrMade
	}
	if len(r.rest) > 0 {
		return api.ErrMore
	}
	return api.OK
}
