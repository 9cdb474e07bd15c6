package store_test

import (
	"fmt"
	"math"
	"strings"
	"testing"

	"orchard/api"
	"orchard/disk"
)

// P9.1: Open.

func TestOpenOfAnEmptyDisk(t *testing.T) {
	d := made(t, 0)
	wantChanges(t, "Open", d, 0, func() { wantFace(t, "an empty disk", opened(t, d), face{}) })
	wantFiles(t, "an empty disk", d)
}

func TestOpenOfDisksThatAreNone(t *testing.T) {
	wantNoStore(t, "nil", nil, api.ErrMade)
	wantNoStore(t, "a zero disk", &disk.Disk{}, api.ErrMade)
	d := full(t)
	wantErr(t, "Crash", d.Crash(0), api.OK)
	wantNoStore(t, "a disk that is down", d, api.ErrDown)
	wantErr(t, "Restart", d.Restart(), api.OK)
	wantFace(t, "it is up", opened(t, d), fullFace())
}

func TestOpenOfAFullDisk(t *testing.T) {
	d := full(t)
	before := files(t, d)
	wantChanges(t, "Open", d, 0, func() { wantFace(t, "a full disk", opened(t, d), fullFace()) })
	wantFiles(t, "Open leaves it", d, before...)
	wantFace(t, "a full disk, again", opened(t, d), fullFace())
}

// TestOpenErrorsFromBelow: ckpt's, then wal's, then those of the records.
func TestOpenErrorsFromBelow(t *testing.T) {
	none := safe(seg(2), framed("\x00"))
	gap := safe(seg(0), framed(promise(ballot(1, 0))))
	wantNoStore(t, "a spoilt checkpoint", laid(t, safe("ckpt", "xyz")), api.ErrCkpt)
	wantNoStore(t, "a spoilt checkpoint and a spoilt log", laid(t, safe("ckpt", "xyz"), gap, none), api.ErrCkpt)
	wantNoStore(t, "a checkpoint that is empty", laid(t, safe("ckpt", "")), api.ErrCkpt)
	wantNoStore(t, "a spoilt log with a record that is none", laid(t, gap, none), api.ErrSpoilt)
	wantNoStore(t, "a record that is none", laid(t, none), api.ErrDisk)
	wantNoStore(t, "a record that is none behind a checkpoint", laid(t, ckptFile(5, ""), none), api.ErrDisk)
}

// TestOpenAtADisksError: what Open has to change is what ckpt and wal say, and their errors are its own.
func TestOpenAtADisksError(t *testing.T) {
	log := framed(promise(ballot(2, 0)))
	lost := safe("ckpt.new", "lost")
	torn := safe(seg(0), log+"torn")
	for k := 1; k <= 4; k++ { // the lost file, and the segment's copy, its Sync, its Rename
		d := laid(t, lost, torn)
		wantErr(t, "SetFuse", d.SetFuse(k, 3), api.OK)
		wantNoStore(t, fmt.Sprintf("a crash at the change %d", k), d, api.ErrDown)
		wantErr(t, "Restart", d.Restart(), api.OK)
		wantFace(t, "behind the crash", opened(t, d), face{promised: ballot(2, 0)})
		wantFiles(t, "behind the crash", d, safe(seg(0), log))
	}
	d := made(t, len(log)+4)
	lay(t, d, torn)
	wantNoStore(t, "no room for the copy", d, api.ErrFull)
	d = laid(t, tailed(seg(0), "", log))
	wantChanges(t, "a tail is synced", d, 1, func() { opened(t, d) })
	wantFiles(t, "a tail is synced", d, safe(seg(0), log))
}

// badNotes are records that are none of the three.
func badNotes() map[string]string {
	l := map[string]string{
		"another kind 0":          num(0),
		"another kind 4":          num(4) + num(1) + num(0),
		"another kind -1":         num(-1) + num(1) + num(0),
		"a kind without an end":   "\x80",
		"a kind in another form":  "\x82\x00" + num(1) + num(0),
		"a replica of many bits":  num(1) + num(1) + num(1<<32),
		"an accepted one's, too":  num(2) + num(1) + num(1<<32) + num(0) + form(sample(0)),
		"an entry of no bytes":    num(3) + num(0) + num(0),
		"an entry with no site":   num(3) + num(0) + num(2) + "\x0e\x64",
		"an entry with more":      num(3) + num(0) + num(3) + "\x0e\x06\x00",
		"an entry cut short":      num(3) + num(0) + num(1) + "\x0e",
		"accepted with no site":   num(2) + num(1) + num(0) + num(0) + num(2) + "\x0e\x64",
		"accepted, of no bytes":   num(2) + num(1) + num(0) + num(0) + num(0),
		"accepted, of no kind":    num(2) + num(1) + num(0) + num(0) + num(1) + "\x12",
		"a length below 0":        num(3) + num(0) + num(-1),
		"a length of another one": num(3) + num(0) + num(9) + "\x0e\x06",
	}
	for i, b := range noBallots() {
		l[fmt.Sprintf("a promise of the ballot %d that is none", i)] = promise(b)
		l[fmt.Sprintf("accepted with the ballot %d that is none", i)] = accepted(4, b, sample(1))
	}
	for _, slot := range noSlots() {
		l[fmt.Sprintf("accepted for %d", slot)] = accepted(slot, ballot(1, 0), sample(1))
		l[fmt.Sprintf("chosen for %d", slot)] = chosen(slot, sample(1))
	}
	for _, whole := range []string{promise(ballot(300, 1)), accepted(300, ballot(300, 1), sample(1)), chosen(300, sample(2))} {
		for i := 1; i < len(whole); i++ {
			l[fmt.Sprintf("kind %d, %d of %d bytes", whole[0]/2, i, len(whole))] = whole[:i]
		}
		l[fmt.Sprintf("kind %d with a byte behind", whole[0]/2)] = whole + "\x00"
		l[fmt.Sprintf("kind %d with another behind", whole[0]/2)] = whole + whole
	}
	return l
}

func TestOpenOfRecordsThatAreNone(t *testing.T) {
	good := []string{promise(ballot(1, 0)), accepted(4, ballot(1, 0), sample(1)), chosen(4, sample(1))}
	for what, bad := range badNotes() {
		wantNoStore(t, what, logged(t, bad), api.ErrDisk)
		wantNoStore(t, what+", behind others", logged(t, append(good, bad)...), api.ErrDisk)
		wantNoStore(t, what+", ahead of others", logged(t, append([]string{bad}, good...)...), api.ErrDisk)
		below := laid(t, ckptFile(latest, "x"), safe(seg(9), framed(bad)))
		wantNoStore(t, what+", below the checkpoint", below, api.ErrDisk)
	}
}

// TestOpenAtTheEdges: ballots, slots and entries that may just be.
func TestOpenAtTheEdges(t *testing.T) {
	for _, b := range []api.Ballot{ballot(1, 0), ballot(1, 4), ballot(latest, 0), ballot(latest, 4)} {
		wantFace(t, "a promise", opened(t, logged(t, promise(b))), face{promised: b})
		for _, slot := range []int64{0, 1, latest} {
			for _, e := range append(samples(), sized(longestEntry), sized(longestEntry+1), sized(1<<17)) {
				s := opened(t, logged(t, accepted(slot, b, e)))
				wantFace(t, "accepted", s, face{promised: b, accepted: []api.Slotted{with(slot, b, e)}})
			}
		}
	}
	for _, e := range samples() {
		s := opened(t, logged(t, chosen(0, e)))
		wantFace(t, "chosen for the first slot", s, face{upto: 1, chosen: []api.Slotted{with(0, api.Ballot{}, e)}})
		s = opened(t, logged(t, chosen(latest, e)))
		wantFace(t, "chosen for the last slot", s, face{chosen: []api.Slotted{with(latest, api.Ballot{}, e)}})
		s = opened(t, laid(t, ckptFile(latest, "end"), safe(seg(0), framed(chosen(latest, e)))))
		wantFace(t, "the last slot of all", s, face{first: latest, upto: latest + 1, data: "end", chosen: []api.Slotted{with(latest, api.Ballot{}, e)}})
	}
}

// TestOpenRaisesWhatIsPromised: a lesser promise counts for nothing, and what is accepted promises, too.
func TestOpenRaisesWhatIsPromised(t *testing.T) {
	rows := []struct {
		what string
		want api.Ballot
		log  []string
	}{
		{"rising", ballot(3, 0), []string{promise(ballot(1, 4)), promise(ballot(2, 2)), promise(ballot(3, 0))}},
		{"falling", ballot(3, 0), []string{promise(ballot(3, 0)), promise(ballot(2, 2)), promise(ballot(1, 4))}},
		{"by replicas", ballot(2, 3), []string{promise(ballot(2, 1)), promise(ballot(2, 3)), promise(ballot(2, 2))}},
		{"the same", ballot(2, 2), []string{promise(ballot(2, 2)), promise(ballot(2, 2))}},
		{"accepted ones", ballot(5, 1), []string{promise(ballot(2, 2)), accepted(0, ballot(5, 1), sample(1)), promise(ballot(4, 0))}},
		{"accepted alone", ballot(5, 1), []string{accepted(0, ballot(5, 1), sample(1))}},
		{"accepted below it", ballot(6, 0), []string{promise(ballot(6, 0)), accepted(0, ballot(5, 1), sample(1))}},
		{"accepted, then above it", ballot(6, 0), []string{accepted(0, ballot(5, 1), sample(1)), promise(ballot(6, 0))}},
		{"chosen ones", api.Ballot{}, []string{chosen(0, sample(1))}},
	}
	for _, row := range rows {
		if got := opened(t, logged(t, row.log...)).Promised(); got != row.want {
			t.Errorf("%s: promised is %v, want %v", row.what, got, row.want)
		}
		below := laid(t, ckptFile(40, ""), safe(seg(0), framed(row.log...)))
		wantFace(t, row.what+", below the checkpoint", opened(t, below), face{promised: row.want, first: 40, upto: 40})
	}
}

// TestOpenOfSeveralForOneSlot: the later one counts, unless its ballot is below.
func TestOpenOfSeveralForOneSlot(t *testing.T) {
	low, middle, high := ballot(1, 4), ballot(2, 0), ballot(2, 1)
	rows := []struct {
		what string
		log  []string
		want api.Slotted
	}{
		{"above", []string{accepted(4, low, sample(1)), accepted(4, high, sample(2))}, with(4, high, sample(2))},
		{"below", []string{accepted(4, high, sample(1)), accepted(4, low, sample(2))}, with(4, high, sample(1))},
		{"the same ballot", []string{accepted(4, high, sample(1)), accepted(4, high, sample(2))}, with(4, high, sample(2))},
		{"the same again", []string{accepted(4, low, sample(1)), accepted(4, low, sample(1))}, with(4, low, sample(1))},
		{"up and down", []string{accepted(4, low, sample(1)), accepted(4, high, sample(2)), accepted(4, middle, sample(3))}, with(4, high, sample(2))},
		{"below what was promised", []string{promise(ballot(9, 0)), accepted(4, low, sample(1)), accepted(4, high, sample(2))}, with(4, high, sample(2))},
		{"below what was accepted for another one", []string{accepted(5, high, sample(0)), accepted(4, low, sample(1))}, with(4, low, sample(1))},
	}
	for _, row := range rows {
		if got, is := opened(t, logged(t, row.log...)).Accepted(4); !is || !sameSlotted(got, row.want) {
			t.Errorf("%s: %v, %v, want %v", row.what, got, is, row.want)
		}
	}
}

func TestOpenOfTwoChosenForOneSlot(t *testing.T) {
	for i := range samples() {
		same := []string{chosen(4, sample(i)), chosen(5, sample(i)), chosen(4, sample(i))}
		want := []api.Slotted{with(4, api.Ballot{}, sample(i)), with(5, api.Ballot{}, sample(i))}
		wantFace(t, "the same", opened(t, logged(t, same...)), face{chosen: want})
		unlike := []string{chosen(4, sample(i)), chosen(5, sample(i)), chosen(4, sample(i+1))}
		wantNoStore(t, "unlike ones", logged(t, unlike...), api.ErrDisk)
		s := laid(t, ckptFile(4, ""), safe(seg(0), framed(unlike...)))
		wantNoStore(t, "unlike ones at the checkpoint", s, api.ErrDisk)
		s = laid(t, ckptFile(5, ""), safe(seg(0), framed(unlike...)))
		wantFace(t, "unlike ones below the checkpoint", opened(t, s), face{first: 5, upto: 6, chosen: want[1:]})
	}
	wantNoStore(t, "the first one again behind another", logged(t, chosen(0, sample(1)), chosen(0, sample(2)), chosen(0, sample(1))), api.ErrDisk)
	other := named(1)
	other.Op.Value = "v"
	wantNoStore(t, "unlike within", logged(t, chosen(0, named(1)), chosen(0, other)), api.ErrDisk)
}

// TestOpenBehindCheckpoints: slots below the checkpoint's count for nothing; the one that is it counts.
func TestOpenBehindCheckpoints(t *testing.T) {
	var log []string
	for i := range int64(6) {
		log = append(log, accepted(i, ballot(1, 0), named(i+1)), chosen(i, named(i+1)))
	}
	for first := range int64(9) {
		want := face{promised: ballot(1, 0), first: first, upto: max(first, 6), data: "data"}
		for i := first; i < 6; i++ {
			want.accepted = append(want.accepted, with(i, ballot(1, 0), named(i+1)))
			want.chosen = append(want.chosen, with(i, api.Ballot{}, named(i+1)))
		}
		d := laid(t, ckptFile(first, "data"), safe(seg(0), framed(log...)))
		wantFace(t, fmt.Sprintf("a checkpoint at %d", first), opened(t, d), want)
	}
	d := laid(t, ckptFile(latest, strings.Repeat("s", longestState)), safe(seg(0), framed(log...)))
	want := face{promised: ballot(1, 0), first: latest, upto: latest, data: strings.Repeat("s", longestState)}
	wantFace(t, "a checkpoint at the end", opened(t, d), want)
}

// TestOpenOfSeveralSegments: the records of all of them count, in their order, and files beside them do not.
func TestOpenOfSeveralSegments(t *testing.T) {
	d := laid(t,
		safe(seg(7), framed(accepted(0, ballot(1, 0), sample(1)), promise(ballot(3, 0)))),
		safe(seg(9), framed(accepted(0, ballot(3, 0), sample(2)), chosen(1, sample(3)))),
		tailed(seg(11), framed(chosen(0, sample(2))), framed(chosen(2, sample(4)))+"torn"),
		safe("log", "other"), safe("log.1", "other"), safe("lag.000000000000", "other"), safe("ckpt.old", "other"),
	)
	want := face{
		promised: ballot(3, 0), upto: 3, accepted: []api.Slotted{with(0, ballot(3, 0), sample(2))},
		chosen: []api.Slotted{with(0, api.Ballot{}, sample(2)), with(1, api.Ballot{}, sample(3)), with(2, api.Ballot{}, sample(4))},
	}
	wantFace(t, "three segments", opened(t, d), want)
	wantFace(t, "three segments, again", opened(t, d), want)
}

// TestOpenUpto: the slots of All, Upto and the gaps between.
func TestOpenUpto(t *testing.T) {
	for _, slots := range [][]int64{{}, {0}, {1}, {0, 1, 2}, {2, 1, 0}, {0, 2}, {0, 1, 3, 4, 6}, {5, 0}, {latest, 0, latest - 1}} {
		var log []string
		var want face
		for _, slot := range slots {
			log = append(log, chosen(slot, sample(int(slot%9))))
			want.chosen = append(want.chosen, with(slot, api.Ballot{}, sample(int(slot%9))))
		}
		want.chosen = bySlots(want.chosen)
		want.upto = int64(len(rowOf(want.chosen, 0)))
		s := opened(t, logged(t, log...))
		wantFace(t, fmt.Sprint("chosen for ", slots), s, want)
		if got := told(s, math.MinInt64); !sameList(got, rowOf(want.chosen, 0)) {
			t.Errorf("chosen for %v: All tells %v", slots, got)
		}
	}
}
