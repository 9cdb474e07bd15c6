package proposer

import (
	"math/bits"

	"orchard/api"
)

const bitsOfByte = 8

// replicas is a set of a group's replicas: a bit for each of them.
type replicas [(api.MaxReplicas + bitsOfByte - 1) / bitsOfByte]uint8

func (r *replicas) add(replica int) { r[replica/bitsOfByte] |= 1 << (replica % bitsOfByte) }

func (r *replicas) has(replica int) bool { return r[replica/bitsOfByte]>>(replica%bitsOfByte)&1 == 1 }

// isMajority tells whether they are more than half of n.
func (r *replicas) isMajority(n int) bool { return r.count() >= Majority(n) }

func (r *replicas) count() int {
	sum := 0
	for _, b := range r {
		sum += bits.OnesCount8(b)
	}
	return sum
}

// Majority is how many replicas of n are more than half; 0, if no group has n of them.
func Majority(n int) int {
	if n < 1 || n > api.MaxReplicas {
		return 0
	}
	return n/2 + 1
}
