package epoch

import (
	"iter"
	"slices"

	"orchard/api"
	"orchard/record"
	"orchard/wire"
)

// Machine is the configuration's: all epochs that there were.
type Machine struct {
	// By numbers. There is none only where no call made the machine; what stands here is never written to again.
	epochs []api.Epoch
}

// New is a machine whose one epoch is Start's.
func New(members ...int) (*Machine, api.Errno) {
	e, err := Start(members...)
	if err != api.OK {
		return nil, err
	}
	return &Machine{epochs: []api.Epoch{e}}, api.OK
}

func (m *Machine) isMade() bool { return m != nil && len(m.epochs) > 0 }

// Apply takes an entry of the log; an EnNone only fills its slot.
func (m *Machine) Apply(x api.Entry) api.Errno {
	if !m.isMade() {
		return api.ErrMade
	}
	if x.Kind == api.EnNone {
		return api.OK
	}
	next, err := Apply(m.Current(), x)
	if err == api.OK {
		m.epochs = append(m.epochs, next)
	}
	return err
}

// Current is the last epoch.
func (m *Machine) Current() api.Epoch {
	if !m.isMade() {
		return api.Epoch{}
	}
	return m.epochs[len(m.epochs)-1]
}

// At is the epoch with a number.
func (m *Machine) At(number int64) (api.Epoch, bool) {
	if !m.isMade() || number < 0 || number >= int64(len(m.epochs)) {
		return api.Epoch{}, false
	}
	return m.epochs[number], true
}

// All goes through the epochs, from the first one on.
func (m *Machine) All() iter.Seq[api.Epoch] {
	var l []api.Epoch
	if m.isMade() {
		// As many as there are now: what comes later is put behind them.
		l = m.epochs
	}
	return func(yield func(api.Epoch) bool) {
		for _, e := range l {
			if !yield(e) {
				return
			}
		}
	}
}

// Bytes is the machine's form: how many epochs there are, and they.
func (m *Machine) Bytes() []byte {
	if !m.isMade() {
		return nil
	}
	// No error is asked for: sites' states only go on, so there are too few epochs for a writer's limit, and each of them may be.
	w := wire.NewWriter()
	w.Int(int64(len(m.epochs)))
	for _, e := range m.epochs {
		record.PutEpoch(w, e)
	}
	return w.Out()
}

// Load is the machine with that form.
func Load(b []byte) (*Machine, api.Errno) {
	r := wire.NewReader(b)
	many, err := r.Int()
	if err != api.OK {
		return nil, api.ErrArg
	}
	m := &Machine{}
	for range many {
		e, err := record.TakeEpoch(r)
		if err != api.OK || !m.mayHave(e) {
			return nil, api.ErrArg
		}
		m.epochs = append(m.epochs, e)
	}
	if !m.isMade() || r.End() != api.OK {
		return nil, api.ErrArg
	}
	return m, api.OK
}

// mayHave is whether e may come behind what is loaded.
func (m *Machine) mayHave(e api.Epoch) bool {
	if m.isMade() {
		return Follows(m.Current(), e)
	}
	first, err := Start(Members(e)...)
	return err == api.OK && e == first
}

// Clone is a machine with the same epochs, that goes its own way.
func (m *Machine) Clone() *Machine {
	if !m.isMade() {
		return nil
	}
	return &Machine{epochs: slices.Clone(m.epochs)}
}
