package store

import (
	"maps"
	"slices"

	"orchard/acceptor"
	"orchard/api"
	"orchard/ckpt"
	"orchard/disk"
	"orchard/record"
	"orchard/wal"
)

const logName = "log"

// Open is the store of a disk.
func Open(d *disk.Disk) (*Store, api.Errno) {
	slot, data, err := ckpt.Load(d)
	// Where no checkpoint was made yet, there is the first one: slot 0, without bytes.
	if err != api.OK && err != api.ErrNone {
		return nil, err
	}
	log, err := wal.Open(d, logName)
	if err != api.OK {
		return nil, err
	}
	p := past{first: slot, accepted: map[int64]api.Slotted{}, chosen: map[int64]*api.Entry{}}
	for _, b := range log.Records() {
		n, ok := readNote(b)
		if !ok || !p.take(n) {
			return nil, api.ErrDisk
		}
	}
	a, err := acceptor.From(p.promised, slot, slices.Collect(maps.Values(p.accepted)))
	if err != api.OK {
		return nil, err
	}
	s := &Store{Acceptor: a, disk: d, log: log, chosen: p.chosen, upto: slot, data: data}
	s.climb()
	return s, api.OK
}

// past is what notes, one behind the other, come to.
type past struct {
	first    int64
	promised api.Ballot
	accepted map[int64]api.Slotted
	chosen   map[int64]*api.Entry
}

// take goes on by a note, and tells whether it may be behind those ahead of it.
func (p *past) take(n note) bool {
	switch n.kind {
	case notePromise:
		p.promise(n.Ballot)
	case noteAccepted:
		p.accept(n.Slotted)
	case noteChosen:
		return p.choose(n.Slot, n.Entry)
	}
	return true
}

func (p *past) promise(b api.Ballot) {
	if acceptor.Compare(b, p.promised) > 0 {
		p.promised = b
	}
}

func (p *past) accept(x api.Slotted) {
	// Also for a slot below the checkpoint's: a crash may have come between the checkpoint and the note of what was promised till then.
	p.promise(x.Ballot)
	if x.Slot < p.first {
		return
	}
	// None yet is the zero ballot, which is below all. The one that is promised does not count: a checkpoint notes it ahead of what was accepted with lesser ones.
	if acceptor.Compare(x.Ballot, p.accepted[x.Slot].Ballot) >= 0 {
		p.accepted[x.Slot] = x
	}
}

func (p *past) choose(slot int64, e api.Entry) bool {
	if slot < p.first {
		return true
	}
	if was, is := p.chosen[slot]; is {
		return record.SameEntry(*was, e)
	}
	p.chosen[slot] = &e
	return true
}
