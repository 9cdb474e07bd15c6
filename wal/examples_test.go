package wal_test

import (
	"testing"

	"orchard/api"
	"orchard/wal"
)

// The examples of the chapter.

func TestExampleSegment(t *testing.T) {
	if got := wal.Segment("log", 12); got != "log.000000000012" {
		t.Errorf("Segment of log and 12: %q", got)
	}
}

func TestExampleTornRecord(t *testing.T) {
	d := made(t, 1000)
	l := opened(t, d)
	wantErr(t, "Append of two", l.Append([]byte("one"), []byte("two")), api.OK)
	wantErr(t, "Sync", l.Sync(), api.OK)
	wantErr(t, "Append of a third", l.Append([]byte("three")), api.OK)
	wantErr(t, "Crash", d.Crash(3), api.OK)
	wantErr(t, "Restart", d.Restart(), api.OK)
	wantTold(t, "behind the crash", opened(t, d), told{0, 2, 2, 1, []string{"one", "two"}})
}
