package net

import (
	"bytes"
	"cmp"
	"slices"

	"orchard/api"
)

// queue has the messages that wait, by their numbers. Their bytes are never written to, only replaced: so several messages, and what an iterator still has to tell, may have the same ones.
type queue struct {
	next    int64 // the next message's number; 0, if no call made the queue
	waiting []api.Sent
}

func (q *queue) isFull() bool { return len(q.waiting) >= api.MaxPending }

// put lets a message wait, and is its number.
func (q *queue) put(from, to api.Addr, data []byte) int64 {
	number := q.next
	q.next++
	q.waiting = append(q.waiting, api.Sent{Number: number, From: from, To: to, Data: data})
	return number
}

// find is the place of a number, if its message waits.
func (q *queue) find(number int64) (int, bool) {
	return slices.BinarySearchFunc(q.waiting, number, func(s api.Sent, number int64) int {
		return cmp.Compare(s.Number, number)
	})
}

// pull takes out the message at a place.
func (q *queue) pull(at int) api.Sent {
	s := q.waiting[at]
	// Those ahead of it move, not those behind it: messages are mostly taken as they came, and then none moves.
	copy(q.waiting[1:at+1], q.waiting[:at])
	q.waiting[0] = api.Sent{}
	q.waiting = q.waiting[1:]
	return s
}

// turn puts other bytes in the place of a message's own.
func (q *queue) turn(place, at int, with byte) {
	data := bytes.Clone(q.waiting[place].Data)
	data[at] ^= with
	q.waiting[place].Data = data
}

// lose drops the messages that are lost, and is how many.
func (q *queue) lose(isLost func(api.Sent) bool) int {
	before := len(q.waiting)
	q.waiting = slices.DeleteFunc(q.waiting, isLost)
	return before - len(q.waiting)
}
