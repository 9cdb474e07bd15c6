// Package wire is layer 1: numbers, texts and lists of bytes as bytes, each in one form; frames with a check. See shared/doc/01-wire.md.
package wire

import "orchard/api"

// maxIntBytes is how many bytes the longest int has: 64 bits, seven a byte.
const maxIntBytes = 10

// fold makes a number without a sign of one with a sign, so that ints near 0 have few bytes on both sides of it.
func fold(n int64) uint64 {
	if n < 0 {
		return ^(uint64(n) << 1)
	}
	return uint64(n) << 1
}

func unfold(u uint64) int64 {
	if u&1 == 1 {
		return ^int64(u >> 1)
	}
	return int64(u >> 1)
}

func appendInt(out []byte, n int64) []byte {
	u := fold(n)
	for u > 127 {
		out = append(out, byte(u)|128)
		u >>= 7
	}
	return append(out, byte(u))
}

// takeInt is the int that b begins with, and how many bytes it has.
func takeInt(b []byte) (int64, int, api.Errno) {
	var u uint64
	for i, x := range b {
		u |= uint64(x&127) << (7 * i)
		last := i == maxIntBytes-1
		if x > 127 && !last {
			continue
		}
		// The tenth byte has room for the 64th bit alone; a last byte 0 says that fewer would have done.
		if last && x > 1 || i > 0 && x == 0 {
			return 0, 0, api.ErrForm
		}
		return unfold(u), i + 1, api.OK
	}
	return 0, 0, api.ErrEnds
}

// takeLen is the length that b begins with, and how many bytes it has itself.
func takeLen(b []byte) (int64, int, api.Errno) {
	n, size, err := takeInt(b)
	if err != api.OK {
		return 0, 0, err
	}
	if n < 0 {
		return 0, 0, api.ErrForm
	}
	return n, size, api.OK
}
