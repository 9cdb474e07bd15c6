package snap

import (
	"orchard/api"
	"orchard/wire"
)

// writer is the coder that puts. It only looks at what it is given, which is the caller's.
type writer struct {
	to  *wire.Writer
	err api.Errno
}

func (w *writer) failed() bool { return w.err != api.OK }

func (w *writer) int64s(l ...*int64) {
	for _, p := range l {
		if !w.failed() {
			w.err = w.to.Int(*p)
		}
	}
}

func (w *writer) ints(l ...*int) {
	for _, p := range l {
		n := int64(*p)
		w.int64s(&n)
	}
}

func (w *writer) errs(l ...*api.Errno) {
	for _, p := range l {
		n := int64(*p)
		w.int64s(&n)
	}
}

func (w *writer) texts(l ...*string) {
	for _, p := range l {
		if !w.failed() {
			w.err = w.to.Text(*p)
		}
	}
}

func (w *writer) flags(l ...*bool) {
	for _, p := range l {
		if !w.failed() {
			w.err = w.to.Flag(*p)
		}
	}
}

func (w *writer) data(l ...*[]byte) {
	for _, p := range l {
		if !w.failed() {
			w.err = w.to.Bytes(*p)
		}
	}
}

func (w *writer) length(many int) int {
	w.ints(&many)
	return many
}

// reader is the coder that takes.
type reader struct {
	from *wire.Reader
	err  api.Errno
}

func (r *reader) failed() bool { return r.err != api.OK }

func (r *reader) end() {
	if !r.failed() {
		r.err = r.from.End()
	}
}

func (r *reader) int64s(l ...*int64) {
	for _, p := range l {
		if !r.failed() {
			*p, r.err = r.from.Int()
		}
	}
}

func (r *reader) ints(l ...*int) {
	for _, p := range l {
		var n int64
		r.int64s(&n)
		*p = int(n)
	}
}

func (r *reader) errs(l ...*api.Errno) {
	for _, p := range l {
		var n int64
		r.int64s(&n)
		*p = api.Errno(n)
	}
}

func (r *reader) texts(l ...*string) {
	for _, p := range l {
		if !r.failed() {
			*p, r.err = r.from.Text()
		}
	}
}

func (r *reader) flags(l ...*bool) {
	for _, p := range l {
		if !r.failed() {
			*p, r.err = r.from.Flag()
		}
	}
}

func (r *reader) data(l ...*[]byte) {
	for _, p := range l {
		if !r.failed() {
			*p, r.err = r.from.Bytes()
		}
	}
}

// length refuses one that no list has at once: behind it nobody knows what would stand there.
func (r *reader) length(int) int {
	var n int
	r.ints(&n)
	// Behind an error n is 0, so that the first one stays.
	if !isLength(n) {
		r.err = api.ErrSnap
	}
	return n
}
