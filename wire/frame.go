package wire

import (
	"bytes"

	"orchard/api"
)

const (
	sumBytes   = 4
	polynomial = 0xedb88320
)

// Sum is the CRC-32 of all lists, one behind the other.
func Sum(l ...[]byte) uint32 {
	sum := ^uint32(0)
	for _, b := range l {
		for _, x := range b {
			sum = shift(sum ^ uint32(x))
		}
	}
	return ^sum
}

// shift moves a sum on by the eight bits of a byte.
func shift(sum uint32) uint32 {
	for range 8 {
		// The lowest bit as a mask: a branch on it would be guessed wrong every other time.
		low := -(sum & 1)
		sum = sum>>1 ^ low&polynomial
	}
	return sum
}

func appendSum(out []byte, sum uint32) []byte {
	for i := range sumBytes {
		out = append(out, byte(sum>>(8*i)))
	}
	return out
}

// Frame is b with its length ahead of it and its sum behind it.
func Frame(b []byte) ([]byte, api.Errno) {
	if len(b) > api.MaxBytes {
		return nil, api.ErrLong
	}
	out := make([]byte, 0, maxIntBytes+len(b)+sumBytes)
	out = appendInt(out, int64(len(b)))
	out = append(out, b...)
	return appendSum(out, Sum(b)), api.OK
}

// Unframe are the bytes of the frame that b begins with, and how many bytes the whole frame has.
func Unframe(b []byte) ([]byte, int, api.Errno) {
	n, size, err := takeLen(b)
	if err != api.OK {
		return nil, 0, err
	}
	if n > api.MaxBytes {
		return nil, 0, api.ErrLong
	}
	end := size + int(n)
	if len(b)-end < sumBytes {
		return nil, 0, api.ErrEnds
	}
	body, sum := b[size:end], b[end:end+sumBytes]
	if !bytes.Equal(sum, appendSum(nil, Sum(body))) {
		return nil, 0, api.ErrCheck
	}
	return bytes.Clone(body), end + sumBytes, api.OK
}
