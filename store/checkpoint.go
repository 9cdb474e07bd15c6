package store

import (
	"bytes"
	"slices"

	"orchard/api"
	"orchard/ckpt"
)

// Checkpoint lets data stand for all slots below slot, which are chosen.
func (s *Store) Checkpoint(slot int64, data []byte) api.Errno {
	if err := s.ready(); err != api.OK {
		return err
	}
	if slot <= s.First() || slot > s.upto {
		return api.ErrSlot
	}
	return s.advance(slot, data)
}

// Install takes the checkpoint that another replica has made, ahead of what is chosen here.
func (s *Store) Install(slot int64, data []byte) api.Errno {
	if err := s.ready(); err != api.OK {
		return err
	}
	if slot <= s.upto || !isSlot(slot) {
		return api.ErrSlot
	}
	return s.advance(slot, data)
}

// advance makes a checkpoint, on the disk and then here.
func (s *Store) advance(slot int64, data []byte) api.Errno {
	if len(data) > api.MaxState {
		return api.ErrLong
	}
	// Upto may be the number behind the last slot of all, at which no checkpoint may be. That is ckpt's to say, but no error of the disk: so it is asked here, where it breaks nothing.
	if _, err := ckpt.Encode(slot, nil); err != api.OK {
		return err
	}
	if err := s.heed(s.save(slot, data)); err != api.OK {
		return err
	}
	s.Forget(slot)
	left := map[int64]*api.Entry{}
	for _, at := range s.chosenFrom(slot) {
		left[at] = s.chosen[at]
	}
	s.chosen = left
	s.data = bytes.Clone(data)
	s.upto = slot
	s.climb()
	return api.OK
}

// save writes a checkpoint, and behind it anew what the log still has to hold: only then may what is ahead of that be cut off.
func (s *Store) save(slot int64, data []byte) api.Errno {
	if err := ckpt.Save(s.disk, slot, data); err != api.OK {
		return err
	}
	next := s.log.Next()
	if err := s.write(s.left(slot)...); err != api.OK {
		return err
	}
	return s.log.Cut(next)
}

// left are the notes of what a checkpoint at a slot leaves.
func (s *Store) left(slot int64) [][]byte {
	var notes [][]byte
	if b := s.Promised(); b != (api.Ballot{}) {
		notes = append(notes, promiseNote(b))
	}
	for x := range s.Acceptor.All(slot) {
		notes = append(notes, acceptedNote(x.Ballot, x.Slot, formOf(x.Entry)))
	}
	for _, at := range s.chosenFrom(slot) {
		notes = append(notes, chosenNote(at, formOf(*s.chosen[at])))
	}
	return notes
}

// chosenFrom are the slots from slot on for which an entry is chosen, rising.
func (s *Store) chosenFrom(slot int64) []int64 {
	var l []int64
	for at := range s.chosen {
		if at >= slot {
			l = append(l, at)
		}
	}
	slices.Sort(l)
	return l
}
