package ckpt_test

import (
	"fmt"
	"strings"
	"testing"

	"orchard/api"
)

// P6.3: a checkpoint is loaded.

func TestLoadOfNone(t *testing.T) {
	for _, files := range [][]plain{nil, others()} {
		d := laid(t, files...)
		for range 2 {
			wantChanges(t, "Load", d, 0, func() { wantPoint(t, "Load of none", load(d), wrong(api.ErrNone)) })
			wantFiles(t, "Load of none", d, files...)
		}
	}
}

func TestLoadChangesNothing(t *testing.T) {
	for _, p := range []point{{0, "", 0}, {5, "x", 0}, {latest, strings.Repeat("y", longest), 0}} {
		d := laid(t, with(others(), safe(old, encodedOf(p)))...)
		for range 3 {
			wantChanges(t, "Load", d, 0, func() { wantPoint(t, "Load", load(d), p) })
		}
		wantFiles(t, "Load", d, with(others(), safe(old, encodedOf(p)))...)
	}
}

// TestLoadOfWhatIsNotSynced: what a file has counts, synced or not; it is not synced by that.
func TestLoadOfWhatIsNotSynced(t *testing.T) {
	b := encoded(5, "hello")
	for synced := range len(b) {
		d := laid(t, plain{old, b, synced})
		wantPoint(t, "Load", load(d), point{5, "hello", 0})
		wantFiles(t, "Load", d, plain{old, b, synced})
	}
}

func TestLoadRemovesASpare(t *testing.T) {
	for _, s := range spares() {
		what := fmt.Sprintf("%v was there", s)
		d := laid(t, with(others(), s)...)
		wantChanges(t, what, d, 1, func() { wantPoint(t, what+": Load of none", load(d), wrong(api.ErrNone)) })
		wantFiles(t, what, d, others()...)
		d = laid(t, with(others(), s, safe(old, encoded(5, "x")))...)
		wantChanges(t, what, d, 1, func() { wantPoint(t, what+": Load", load(d), point{5, "x", 0}) })
		wantFiles(t, what, d, with(others(), safe(old, encoded(5, "x")))...)
		wantChanges(t, what, d, 0, func() { wantPoint(t, what+": Load again", load(d), point{5, "x", 0}) })
		d = laid(t, s, safe(old, "spoilt"))
		wantPoint(t, what+": Load of what is spoilt", load(d), wrong(api.ErrCkpt))
		wantFiles(t, what, d, safe(old, "spoilt"))
	}
}

// TestLoadOfWhatIsSpoilt: the file stays as it is.
func TestLoadOfWhatIsSpoilt(t *testing.T) {
	whole := encoded(5, "hello")
	spoilt := []string{"", "x", whole + "\x00", whole[1:], encoded(-1, ""), encoded(latest+1, ""), encoded(0, strings.Repeat("x", longest+1)), framed(""), framed("\x0a")}
	for n := range len(whole) {
		turned := []byte(whole)
		turned[n] ^= 16
		spoilt = append(spoilt, whole[:n], string(turned))
	}
	for _, b := range spoilt {
		d := laid(t, plain{old, b, len(b) / 2})
		for range 2 {
			wantChanges(t, "Load", d, 0, func() { wantPoint(t, "Load of "+short(b), load(d), wrong(api.ErrCkpt)) })
		}
		wantFiles(t, "Load of what is spoilt", d, plain{old, b, len(b) / 2})
	}
}

func TestLoadOnADiskThatIsDown(t *testing.T) {
	x := encoded(5, "x")
	for _, files := range [][]plain{nil, {safe(old, x)}, {safe(old, x), safe(spare, x)}, {safe(spare, x)}, {safe(old, "spoilt")}} {
		d := laid(t, files...)
		want := load(d.Clone())
		wantErr(t, "Crash", d.Crash(0), api.OK)
		for range 2 {
			wantPoint(t, "Load on a disk that is down", load(d), wrong(api.ErrDown))
		}
		wantFiles(t, "down", d, files...)
		wantErr(t, "Restart", d.Restart(), api.OK)
		wantPoint(t, "Load, up again", load(d), want)
	}
}

// TestLoadOnADiskThatFalls: its one change is that a spare is removed.
func TestLoadOnADiskThatFalls(t *testing.T) {
	for _, file := range []string{encoded(5, "x"), "spoilt"} {
		d := laid(t, safe(old, file), safe(spare, encoded(9, "y")))
		want := load(d.Clone())
		wantErr(t, "SetFuse", d.SetFuse(1, 0), api.OK)
		wantPoint(t, "Load on a disk that falls", load(d), wrong(api.ErrDown))
		wantFiles(t, "fallen", d, safe(old, file), safe(spare, encoded(9, "y")))
		wantErr(t, "Restart", d.Restart(), api.OK)
		wantPoint(t, "Load", load(d), want)
		wantFiles(t, "loaded", d, safe(old, file))
		wantErr(t, "SetFuse", d.SetFuse(1, 0), api.OK)
		wantPoint(t, "Load that changes nothing", load(d), want)
	}
}
