package wal

import (
	"strconv"
	"strings"

	"orchard/api"
	"orchard/wire"
)

const (
	longestName   = 20
	numberDigits  = 12
	highestNumber = 1_000_000_000_000 - 1
)

// segment is what a file of the log holds. Its records only become more, and their bytes are never written to: so an iterator that still has some to tell may have the same ones.
type segment struct {
	first   int64
	records [][]byte
}

// next is the number behind its last record.
func (s segment) next() int64 { return s.first + int64(len(s.records)) }

// Segment is the name of the segment of a log whose first record has a number, or "", if there can be none.
func Segment(name string, first int64) string {
	if !isName(name) || first < 0 || first > highestNumber {
		return ""
	}
	digits := strconv.FormatInt(first, 10)
	return name + "." + strings.Repeat("0", numberDigits-len(digits)) + digits
}

func isName(name string) bool {
	for i := range len(name) {
		if name[i] < 'a' || name[i] > 'z' {
			return false
		}
	}
	return len(name) >= 1 && len(name) <= longestName
}

// firstOf is the number in a file's name, if it is that of a segment of a log.
func firstOf(file, name string) (int64, bool) {
	digits, _ := strings.CutPrefix(file, name+".")
	first, err := strconv.ParseInt(digits, 10, 64)
	// Held against the one name that the number has: ParseInt takes signs and any number of digits, too.
	if err != nil || Segment(name, first) != file {
		return 0, false
	}
	return first, true
}

// split are the records whose whole frames b begins with, up to an empty one, and how many bytes these frames have: what stands behind them is to be cut off.
func split(b []byte) ([][]byte, int) {
	var records [][]byte
	whole := 0
frames:
	for whole < len(b) {
		record, size, err := wire.Unframe(b[whole:])
		switch {
		case err != api.OK, len(record) == 0:
			break frames
		default:
			records = append(records, record)
			whole += size
		}
	}
	return records, whole
}
