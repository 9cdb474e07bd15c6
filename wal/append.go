package wal

import (
	"bytes"

	"orchard/api"
	"orchard/wire"
)

const longestRecord = 1 << 16

// ready finds what is wrong with a log that is to be written to.
func (l *Log) ready() api.Errno {
	if !l.isMade() {
		return api.ErrMade
	}
	if l.spoilt {
		return api.ErrSpoilt
	}
	return api.OK
}

// spoil hands on an error of the disk. Behind one nobody knows what the last file has: no record may come behind that any more.
func (l *Log) spoil(err api.Errno) api.Errno {
	l.spoilt = true
	return err
}

// Append puts records to the log's end.
func (l *Log) Append(records ...[]byte) api.Errno {
	if err := l.ready(); err != api.OK {
		return err
	}
	for _, record := range records {
		if len(record) == 0 || len(record) > longestRecord {
			return api.ErrRecord
		}
	}
	// Of no record no number can be too high, whatever the next one is.
	if len(records) > 0 && l.next+int64(len(records))-1 > highestNumber {
		return api.ErrLong
	}
	for _, record := range records {
		if err := l.put(record); err != api.OK {
			return l.spoil(err)
		}
	}
	return api.OK
}

// Sync makes all records outlive crashes.
func (l *Log) Sync() api.Errno {
	if err := l.ready(); err != api.OK {
		return err
	}
	if err := l.clean(); err != api.OK {
		return l.spoil(err)
	}
	l.synced = l.next
	return api.OK
}

// put appends one record.
func (l *Log) put(record []byte) api.Errno {
	frame, err := wire.Frame(record)
	if err != api.OK {
		return err
	}
	place, err := l.place()
	if err != api.OK {
		return err
	}
	first := l.next
	if place < len(l.segments) {
		first = l.segments[place].first
	}
	if err := l.Disk.Append(l.file(first), frame); err != api.OK {
		return err
	}
	if place == len(l.segments) {
		l.segments = append(l.segments, segment{first: first})
	}
	s := &l.segments[place]
	s.records = append(s.records, bytes.Clone(record))
	l.next++
	l.dirty = true
	return api.OK
}

// place is where among the segments the next record's one is: the last one, or one behind it, ahead of which the last one is synced.
func (l *Log) place() (int, api.Errno) {
	last := len(l.segments) - 1
	if last < 0 {
		return 0, api.OK
	}
	size, _, err := l.Size(l.file(l.segments[last].first))
	if err != api.OK {
		return 0, err
	}
	if size < api.SegmentBytes {
		return last, api.OK
	}
	return last + 1, l.clean()
}

// clean syncs the last segment, if something was appended to it since it was.
func (l *Log) clean() api.Errno {
	if !l.dirty {
		return api.OK
	}
	last := l.segments[len(l.segments)-1]
	if err := l.Disk.Sync(l.file(last.first)); err != api.OK {
		return err
	}
	l.dirty = false
	return api.OK
}
