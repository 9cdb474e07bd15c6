package ckpt_test

import (
	"fmt"
	"slices"
	"strings"
	"testing"
	"time"

	"orchard/api"
	"orchard/ckpt"
	"orchard/disk"
)

// R2: the error that the chapter names first, and zero values beside it (some of it stands in the tests of the calls); R3: nothing is shared; R4: nil and empty; R5: disks that no call made; R6: the same calls answer the same; THE BOUND.

func TestDisksThatNoCallMade(t *testing.T) {
	for _, d := range []*disk.Disk{nil, {}} {
		for range 2 {
			wantErr(t, "Save", ckpt.Save(d, 5, []byte("x")), api.ErrMade)
			wantErr(t, "Save of nothing", ckpt.Save(d, 0, nil), api.ErrMade)
			wantErr(t, "Save of the most", ckpt.Save(d, latest, make([]byte, longest)), api.ErrMade)
			for _, slot := range badSlots() {
				wantErr(t, "ErrArg ahead of ErrMade", ckpt.Save(d, slot, nil), api.ErrArg)
				wantErr(t, "ErrArg ahead of ErrLong and ErrMade", ckpt.Save(d, slot, make([]byte, longest+1)), api.ErrArg)
			}
			wantErr(t, "ErrLong ahead of ErrMade", ckpt.Save(d, 5, make([]byte, longest+1)), api.ErrLong)
			wantPoint(t, "Load", load(d), wrong(api.ErrMade))
		}
	}
}

// TestFirstErrors: where several errors apply, the one that the chapter names first.
func TestFirstErrors(t *testing.T) {
	d := made(t, 3)
	crowd(t, d, api.MaxFiles)
	wantErr(t, "ErrArg ahead of all", ckpt.Save(d, -1, make([]byte, longest+1)), api.ErrArg)
	wantErr(t, "ErrLong of Encode ahead of the disk's", ckpt.Save(d, 1, make([]byte, longest+1)), api.ErrLong)
	wantErr(t, "ErrLong of the disk ahead of ErrFull", ckpt.Save(d, 1, []byte("x")), api.ErrLong)
	wantErr(t, "Remove", d.Remove("other3"), api.OK)
	wantErr(t, "ErrFull", ckpt.Save(d, 1, []byte("x")), api.ErrFull)
	wantErr(t, "ErrLong of Encode ahead of ErrFull", ckpt.Save(d, 1, make([]byte, longest+1)), api.ErrLong)
	wantErr(t, "Append", d.Append(spare, nil), api.OK)
	wantErr(t, "Crash", d.Crash(0), api.OK)
	wantErr(t, "ErrArg ahead of ErrDown", ckpt.Save(d, latest+1, nil), api.ErrArg)
	wantErr(t, "ErrDown ahead of ErrFull", ckpt.Save(d, 1, []byte("x")), api.ErrDown)
	wantPoint(t, "ErrDown ahead of ErrNone", load(d), wrong(api.ErrDown))
	wantErr(t, "Restart", d.Restart(), api.OK)
	wantErr(t, "SetFuse", d.SetFuse(1, 0), api.OK)
	wantPoint(t, "ErrDown of a fuse ahead of ErrNone", load(d), wrong(api.ErrDown))
}

// TestNothingBesideErrors: lists are nil there, not only empty.
func TestNothingBesideErrors(t *testing.T) {
	down := laid(t, safe(old, encoded(5, "x")))
	wantErr(t, "Crash", down.Crash(0), api.OK)
	falls := laid(t, safe(old, encoded(5, "x")), safe(spare, "left"))
	wantErr(t, "SetFuse", falls.SetFuse(1, 0), api.OK)
	for _, d := range []*disk.Disk{nil, {}, made(t, 10), down, falls, laid(t, safe(old, encoded(-5, "x"))), laid(t, safe(old, encoded(5, "x")+"y"))} {
		slot, data, err := ckpt.Load(d)
		if slot != 0 || data != nil || err == api.OK {
			t.Errorf("Load: %d, %v, error %d", slot, data, err)
		}
	}
	for _, b := range []string{"", "x", encoded(5, "x") + "y", encoded(-5, "x"), encoded(5, "x")[:5], framed("\x0a\x02xy"), encoded(5, strings.Repeat("x", longest+1))} {
		slot, data, err := ckpt.Decode([]byte(b))
		if slot != 0 || data != nil || err != api.ErrCkpt {
			t.Errorf("Decode of %s: %d, %d bytes, error %d", short(b), slot, len(data), err)
		}
	}
}

func TestDataHandedInIsNotKept(t *testing.T) {
	all := []byte("hello, and more")
	d := made(t, roomy)
	wantErr(t, "Save", ckpt.Save(d, 5, all[:5]), api.OK)
	b, err := ckpt.Encode(5, all[:5])
	wantErr(t, "Encode", err, api.OK)
	clear(all)
	wantPoint(t, "Load", load(d), point{5, "hello", 0})
	if string(b) != encoded(5, "hello") {
		t.Errorf("what was encoded is now %q", b)
	}
	whole := []byte(encoded(5, "hello") + "behind it")
	slot, data, err := ckpt.Decode(whole[:len(whole)-9])
	clear(whole)
	if slot != 5 || string(data) != "hello" || err != api.OK {
		t.Errorf("what was decoded is now %d, %q, error %d", slot, data, err)
	}
}

func TestDataHandedInIsNotChanged(t *testing.T) {
	all := []byte("hello, and more")
	d := made(t, roomy)
	wantErr(t, "Save", ckpt.Save(d, 5, all[:5]), api.OK)
	b, err := ckpt.Encode(5, all[:5])
	wantErr(t, "Encode", err, api.OK)
	clear(b[:cap(b)])
	wantErr(t, "Save", ckpt.Save(d, 6, []byte("other")), api.OK)
	wantErr(t, "Append", d.Append(old, []byte("XXXX")), api.OK)
	if string(all) != "hello, and more" {
		t.Errorf("what was handed in is now %q", all)
	}
	whole := []byte(encoded(5, "hello") + "behind it")
	_, data, err := ckpt.Decode(whole[:len(whole)-9])
	wantErr(t, "Decode", err, api.OK)
	clear(data[:cap(data)])
	if string(whole) != encoded(5, "hello")+"behind it" {
		t.Errorf("what was handed in is now %q", whole)
	}
}

func TestDataAnsweredIsNobodyElses(t *testing.T) {
	d := laid(t, safe(old, encoded(5, "hello")))
	before := look(t, d)
	_, first, err := ckpt.Load(d)
	wantErr(t, "Load", err, api.OK)
	_, second, err := ckpt.Load(d)
	wantErr(t, "Load", err, api.OK)
	clear(first[:cap(first)])
	_ = append(first, "more"...)
	if string(second) != "hello" {
		t.Errorf("two Loads share their bytes: %q", second)
	}
	wantFace(t, "written to", d, before)
	wantPoint(t, "Load", load(d), point{5, "hello", 0})
	x, _ := ckpt.Encode(5, []byte("hello"))
	y, _ := ckpt.Encode(5, []byte("hello"))
	clear(x[:cap(x)])
	if string(y) != encoded(5, "hello") {
		t.Errorf("two Encodes share their bytes: %q", y)
	}
}

// R4: nil and empty lists are the same.
func TestNilAndEmptyLists(t *testing.T) {
	for _, data := range [][]byte{nil, {}} {
		b, err := ckpt.Encode(7, data)
		if err != api.OK || string(b) != encoded(7, "") {
			t.Errorf("Encode of no byte: %q, error %d", b, err)
		}
		d := made(t, roomy)
		wantErr(t, "Save of no byte", ckpt.Save(d, 7, data), api.OK)
		wantFiles(t, "Save of no byte", d, safe(old, encoded(7, "")))
		wantPoint(t, "Load of no byte", load(d), point{7, "", 0})
	}
}

// R6.
func TestSameCallsAnswerTheSame(t *testing.T) {
	run := func() ([]string, face) {
		s := source(5)
		d := made(t, 200)
		lay(t, d, others()[:3]...)
		var answers []string
		for range 200 {
			d.SetFuse(s.below(9), s.below(40))
			err := save(d, point{int64(s.below(100)), s.text(s.below(60)), 0})
			answers = append(answers, fmt.Sprint(err, load(d)))
			if d.Down() {
				d.Restart()
			}
		}
		return answers, look(t, d)
	}
	answers, disk := run()
	for range 5 {
		if a, d := run(); !slices.Equal(a, answers) || !d.same(disk) {
			t.Fatal("the same calls answer otherwise")
		}
	}
}

// THE BOUND: calls with as much as there may be; one that is not near-linear would take many times as long.

const longTime = 20 * time.Second

func wantSoon(t *testing.T, what string, call func()) {
	t.Helper()
	begun := time.Now()
	call()
	if took := time.Since(begun); took > longTime {
		t.Errorf("%s took %v", what, took)
	}
}

func TestLongCheckpoints(t *testing.T) {
	s := source(6)
	p := point{latest, s.text(longest), 0}
	d := made(t, roomy)
	crowd(t, d, api.MaxFiles-1)
	wantSoon(t, "Save and Load of the most, beside the most files", func() {
		for range 20 {
			wantErr(t, "Save", save(d, p), api.OK)
			wantPoint(t, "Load", load(d), p)
			wantErr(t, "Remove", d.Remove(old), api.OK)
		}
	})
	far := strings.Repeat(encoded(5, "x"), 1<<20)
	wantSoon(t, "Decode of far too much", func() {
		for range 20 {
			wantSpoilt(t, "far too much", far)
		}
	})
}
