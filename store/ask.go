package store

import (
	"orchard/acceptor"
	"orchard/api"
	"orchard/record"
)

// ready finds what is wrong with a store that is to be changed.
func (s *Store) ready() api.Errno {
	if !s.isMade() {
		return api.ErrMade
	}
	if s.broken {
		return api.ErrBroken
	}
	return api.OK
}

// heed hands on what writing to the disk has answered: behind an error nobody knows what it holds, and the store is broken.
func (s *Store) heed(err api.Errno) api.Errno {
	s.broken = err != api.OK
	return err
}

// write puts notes to the log's end, so that they outlive crashes.
func (s *Store) write(notes ...[]byte) api.Errno {
	if err := s.log.Append(notes...); err != api.OK {
		return err
	}
	return s.log.Sync()
}

// Prepare promises a ballot, and is what was accepted for slots from from on.
func (s *Store) Prepare(b api.Ballot, from int64) ([]api.Slotted, api.Errno) {
	if err := s.ready(); err != api.OK {
		return nil, err
	}
	if !acceptor.Check(b) || !isSlot(from) {
		return nil, api.ErrArg
	}
	switch acceptor.Compare(b, s.Promised()) {
	case -1:
		return nil, api.ErrLow
	case 1:
		if err := s.heed(s.write(promiseNote(b))); err != api.OK {
			return nil, err
		}
	}
	return s.Acceptor.Prepare(b, from)
}

// Accept promises a ballot, and accepts entries for their slots with it.
func (s *Store) Accept(b api.Ballot, l ...api.Slotted) api.Errno {
	if len(l) == 0 {
		// From the last slot on: what it answers is let go of.
		_, err := s.Prepare(b, api.MaxTime)
		return err
	}
	if err := s.ready(); err != api.OK {
		return err
	}
	if !acceptor.Check(b) {
		return api.ErrArg
	}
	if !areSlots(s.First(), l...) {
		return api.ErrSlot
	}
	forms, err := formsOf(l...)
	if err != api.OK {
		return err
	}
	if acceptor.Compare(b, s.Promised()) < 0 {
		return api.ErrLow
	}
	notes := make([][]byte, len(l))
	for i, x := range l {
		notes[i] = acceptedNote(b, x.Slot, forms[i])
	}
	if err := s.heed(s.write(notes...)); err != api.OK {
		return err
	}
	for _, x := range l {
		s.Acceptor.Accept(b, x.Slot, x.Entry)
	}
	return api.OK
}

// areSlots tells whether all slots may be, from least on, and none stands there twice.
func areSlots(least int64, l ...api.Slotted) bool {
	seen := make(map[int64]struct{}, len(l))
	for _, x := range l {
		if !isSlot(x.Slot) || x.Slot < least {
			return false
		}
		seen[x.Slot] = struct{}{}
	}
	return len(seen) == len(l)
}

// Choose keeps entries as chosen for their slots. They are not synced: what is lost is chosen still, and told again by others.
func (s *Store) Choose(l ...api.Slotted) api.Errno {
	if err := s.ready(); err != api.OK {
		return err
	}
	if !areSlots(0, l...) {
		return api.ErrSlot
	}
	forms, err := formsOf(l...)
	if err != api.OK {
		return err
	}
	var notes [][]byte
	var fresh []api.Slotted
	for i, x := range l {
		was, is := s.chosen[x.Slot]
		switch {
		case is && !record.SameEntry(*was, x.Entry):
			return api.ErrClash
		case !is && x.Slot >= s.First():
			notes = append(notes, chosenNote(x.Slot, forms[i]))
			fresh = append(fresh, x)
		}
	}
	if len(fresh) == 0 {
		return api.OK
	}
	if err := s.heed(s.log.Append(notes...)); err != api.OK {
		return err
	}
	for _, x := range fresh {
		s.choose(x.Slot, x.Entry)
	}
	return api.OK
}
