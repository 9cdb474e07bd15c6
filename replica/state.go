package replica

import "orchard/api"

// maxParts is of how many parts a checkpoint may come.
const maxParts = 64

// parts are those of a checkpoint that have come; all of them have its slot, and say that they are as many.
type parts struct {
	slot int64
	many int
	came map[int][]byte // by Index
}

// keep takes a part, and tells whether all of them are there. Those of another checkpoint are let go of.
func (p *parts) keep(slot int64, part api.Part) bool {
	if p.slot != slot || p.many != part.Many {
		*p = parts{slot: slot, many: part.Many, came: map[int][]byte{}}
	}
	p.came[part.Index] = append([]byte(nil), part.Data...)
	return len(p.came) == p.many
}

// join is what all parts are together.
func (p *parts) join() []byte {
	var data []byte
	for i := range p.many {
		data = append(data, p.came[i]...)
	}
	return data
}

func (r *Replica) takeState(m api.Msg) ([]api.Msg, api.Errno) {
	if m.Slot <= r.Upto() || m.Part.Many > maxParts || !r.parts.keep(m.Slot, m.Part) {
		return nil, api.OK
	}
	data := r.parts.join()
	r.parts = parts{}
	if err := r.Install(m.Slot, data); err != api.OK {
		return nil, r.heed(err)
	}
	// What it asked for may be in the checkpoint.
	if r.proposer != nil {
		r.stepDown()
	}
	return nil, api.OK
}

// sendState sends the checkpoint to a replica, part by part.
func (r *Replica) sendState(replica int) []api.Msg {
	slot, data := r.State()
	// One without bytes has a part, too.
	many := max(1, (len(data)+api.MaxData-1)/api.MaxData)
	var out []api.Msg
	for i := range many {
		piece := data[i*api.MaxData : min((i+1)*api.MaxData, len(data))]
		part := api.Part{Snap: slot, Index: i, Many: many, Data: piece}
		out = append(out, r.to(replica, api.MsState, withSlot(slot), withPart(part))...)
	}
	return out
}
