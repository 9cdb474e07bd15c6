package wal

import (
	"orchard/api"
	"orchard/disk"
)

// spare is the file in which a segment is written anew.
const spare = "new"

// Open is the log of a name on a disk.
func Open(d *disk.Disk, name string) (*Log, api.Errno) {
	if !isName(name) {
		return nil, api.ErrArg
	}
	// Asked for these two errors alone: there need not be a file of that name.
	if _, _, err := d.Size(name); err == api.ErrMade || err == api.ErrDown {
		return nil, err
	}
	l := &Log{Disk: d, name: name}
	l.find()
	if err := l.load(); err != api.OK {
		return nil, err
	}
	if err := l.settle(); err != api.OK {
		return nil, err
	}
	l.synced = l.next
	return l, api.OK
}

func (l *Log) file(first int64) string { return Segment(l.name, first) }

// find lists the segments that are there. The disk tells names in their order, and as all numbers have as many digits, that is the numbers' order.
func (l *Log) find() {
	for file := range l.Names() {
		if first, ok := firstOf(file, l.name); ok {
			l.segments = append(l.segments, segment{first: first})
		}
	}
}

// load reads the segments' records; of the last one it cuts off what is not whole.
func (l *Log) load() api.Errno {
	for i := range l.segments {
		s := &l.segments[i]
		b, err := l.Read(l.file(s.first))
		if err != api.OK {
			return err
		}
		records, whole := split(b)
		s.records = records
		l.next = s.next()
		if i == len(l.segments)-1 {
			return l.trim(b, whole)
		}
		if whole < len(b) || l.next != l.segments[i+1].first {
			return api.ErrSpoilt
		}
	}
	return api.OK
}

// trim leaves of the last segment, whose file has the bytes b, those that are whole.
func (l *Log) trim(b []byte, whole int) api.Errno {
	if whole == len(b) {
		return api.OK
	}
	last := len(l.segments) - 1
	file := l.file(l.segments[last].first)
	if whole == 0 {
		l.segments = l.segments[:last]
		return l.Remove(file)
	}
	return l.replace(file, b[:whole])
}

// replace lets a file have other bytes, in one step that no crash parts.
func (l *Log) replace(file string, b []byte) api.Errno {
	if _, _, err := l.Size(spare); err == api.OK {
		if err := l.Remove(spare); err != api.OK {
			return err
		}
	}
	if err := l.Disk.Append(spare, b); err != api.OK {
		return err
	}
	if err := l.Disk.Sync(spare); err != api.OK {
		return err
	}
	return l.Rename(spare, file)
}

// settle syncs what is there: only then may all of it count as synced.
func (l *Log) settle() api.Errno {
	for _, s := range l.segments {
		size, synced, err := l.Size(l.file(s.first))
		if err != api.OK {
			return err
		}
		if synced == size {
			continue
		}
		if err := l.Disk.Sync(l.file(s.first)); err != api.OK {
			return err
		}
	}
	return api.OK
}
