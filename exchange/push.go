package exchange

import (
	"iter"
	"slices"

	"orchard/api"
	"orchard/record"
)

// Push goes through the messages by which a site sends another one the operations that this one is not known to have, at most so many in all.
func Push(s api.Snap, from, to api.Addr, most int) iter.Seq[api.Msg] {
	var l []api.Msg
	if areAddrs(from, to) && isSite(to.Group) {
		// Gathered now: what is told is what was there when it was asked.
		l = gather(s, api.Msg{Kind: api.MsPush, From: from, To: to, Number: s.Epoch.Number}, most)
	}
	return func(yield func(api.Msg) bool) {
		for _, m := range l {
			// Who was told the message may write to its operations, and go through all of them again.
			if !yield(record.CloneMsg(m)) {
				return
			}
		}
	}
}

// gather is a message like m for each batch of operations, the last one cut short where there are too many.
func gather(s api.Snap, m api.Msg, most int) []api.Msg {
	var l []api.Msg
origins:
	for origin := range api.MaxSites {
		m.Origin, m.Slot = origin, s.Known[m.To.Group][origin]
		for ops := range slices.Chunk(keptFrom(s, origin, m.Slot), api.MaxPush) {
			if most <= 0 {
				break origins
			}
			m.Ops = ops[:min(len(ops), most)]
			l = append(l, record.CloneMsg(m))
			m.Slot += int64(len(m.Ops))
			most -= len(m.Ops)
		}
	}
	return l
}

// keptFrom are the operations of an origin that are kept, from the one with that number on; none, if those ahead of them are not kept any more.
func keptFrom(s api.Snap, origin int, number int64) []api.Op {
	start, kept := s.Starts[origin], s.Kept[origin]
	if start < 0 || number < start || number > api.MaxTime {
		return nil
	}
	return kept[min(number-start, int64(len(kept))):]
}
