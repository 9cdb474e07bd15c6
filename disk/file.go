package disk

import "slices"

// synced is the beginning of a file that no crash takes away: it only grows.
type synced struct{ safe []byte }

func (s *synced) save(b []byte) { s.safe = append(s.safe, b...) }

// file is what is synced of it, and its tail behind that.
type file struct {
	synced
	tail []byte
}

func (f *file) put(b []byte) { f.tail = append(f.tail, b...) }

func (f *file) size() int { return len(f.safe) + len(f.tail) }

func (f *file) bytes() []byte { return slices.Concat(f.safe, f.tail) }

func (f *file) sync() {
	f.save(f.tail)
	f.tail = nil
}

// tear is what a crash does: of the tail its first keep bytes stay.
func (f *file) tear(keep int) {
	f.tail = f.tail[:min(keep, len(f.tail))]
	f.sync()
}

func (f *file) clone() *file {
	c := &file{}
	c.save(f.safe)
	c.put(f.tail)
	return c
}
