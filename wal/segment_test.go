package wal_test

import (
	"math"
	"strings"
	"testing"

	"orchard/wal"
)

// P5.1: the names of segments.

// badNames are no names of logs.
func badNames() []string {
	return []string{
		"", strings.Repeat("a", 21), strings.Repeat("z", 1000), strings.Repeat("é", 3),
		"A", "Log", "loG", "log1", "1", "l.og", "log.", ".log", "lo g", " log", "log ", "log\n", "\x00", "a\x00", "a\xff", "\xff",
		"`", "{", "a`b", "a{b", "@", "[", "_", "-", "é", "aé", "ａ", strings.Repeat("a", 19) + "A", strings.Repeat("a", 20) + "A", "A" + strings.Repeat("a", 20),
	}
}

func goodNames() []string {
	return []string{"a", "z", "ab", "log", "new", "abcdefghijklmnopqrst", "uvwxyz", strings.Repeat("a", 20), strings.Repeat("z", 19)}
}

func wantSegment(t *testing.T, name string, first int64, want string) {
	t.Helper()
	if got := wal.Segment(name, first); got != want {
		t.Errorf("Segment of %q and %d: %q, want %q", name, first, got, want)
	}
}

func TestSegmentNumbers(t *testing.T) {
	cases := []struct {
		first int64
		want  string
	}{
		{math.MinInt64, ""},
		{-1 << 40, ""},
		{-12, ""},
		{-1, ""},
		{0, "log.000000000000"},
		{1, "log.000000000001"},
		{9, "log.000000000009"},
		{10, "log.000000000010"},
		{12, "log.000000000012"},
		{1 << 32, "log.004294967296"},
		{99_999_999_999, "log.099999999999"},
		{100_000_000_000, "log.100000000000"},
		{999_999_999_998, "log.999999999998"},
		{999_999_999_999, "log.999999999999"},
		{1_000_000_000_000, ""},
		{1_000_000_000_001, ""},
		{1 << 62, ""},
		{math.MaxInt64, ""},
	}
	for _, c := range cases {
		wantSegment(t, "log", c.first, c.want)
		wantSegment(t, "", c.first, "")
		wantSegment(t, "Log", c.first, "")
	}
}

func TestSegmentOfNames(t *testing.T) {
	for _, name := range goodNames() {
		wantSegment(t, name, 0, name+".000000000000")
		wantSegment(t, name, 345, name+".000000000345")
		wantSegment(t, name, highest, name+".999999999999")
		wantSegment(t, name, -1, "")
		wantSegment(t, name, highest+1, "")
	}
	for _, name := range badNames() {
		for _, first := range []int64{-1, 0, 7, highest, highest + 1} {
			wantSegment(t, name, first, "")
		}
	}
}

func TestSegmentOfEachByte(t *testing.T) {
	for i := range 256 {
		sign := string([]byte{byte(i)})
		for _, name := range []string{sign, sign + "ab", "a" + sign + "b", "ab" + sign, strings.Repeat("a", 19) + sign} {
			want := ""
			if i >= 'a' && i <= 'z' {
				want = name + ".000000000005"
			}
			wantSegment(t, name, 5, want)
		}
	}
}
