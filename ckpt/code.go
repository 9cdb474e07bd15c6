package ckpt

import (
	"slices"

	"orchard/api"
	"orchard/wire"
)

// check finds what is wrong with a checkpoint that is to be, or that was read.
func check(slot int64, data []byte) api.Errno {
	if slot < 0 || slot > api.MaxTime {
		return api.ErrArg
	}
	if len(data) > api.MaxState {
		return api.ErrLong
	}
	return api.OK
}

// Encode are the bytes of a checkpoint's file.
func Encode(slot int64, data []byte) ([]byte, api.Errno) {
	if err := check(slot, data); err != api.OK {
		return nil, err
	}
	return frame(number(slot), list(data))
}

// Decode is the checkpoint of a file's bytes. Ints, lists and frames have one form each: what is read to its end is just what Encode answers.
func Decode(b []byte) (int64, []byte, api.Errno) {
	body, size, err := wire.Unframe(b)
	if err != api.OK || size != len(b) {
		return 0, nil, api.ErrCkpt
	}
	r := wire.NewReader(body)
	slot, err := r.Int()
	if err != api.OK {
		return 0, nil, api.ErrCkpt
	}
	data, err := r.Bytes()
	if err != api.OK || r.End() != api.OK || check(slot, data) != api.OK {
		return 0, nil, api.ErrCkpt
	}
	return slot, data, api.OK
}

// frame is one frame of all lists, one behind the other.
func frame(lists ...[]byte) ([]byte, api.Errno) { return wire.Frame(slices.Concat(lists...)) }

// number is an int's bytes. One int is far below a writer's limit: its error need not be asked for.
func number(n int64) []byte {
	w := wire.NewWriter()
	w.Int(n)
	return w.Out()
}

// list is data with its length ahead of it. MaxState is far below a writer's limit: its error need not be asked for.
func list(data []byte) []byte {
	w := wire.NewWriter()
	w.Bytes(data)
	return w.Out()
}
