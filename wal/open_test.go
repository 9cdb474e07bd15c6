package wal_test

import (
	"fmt"
	"slices"
	"strings"
	"testing"

	"orchard/api"
	"orchard/disk"
	"orchard/wal"
	"orchard/wire"
)

// P5.2: a log is opened.

// fallen is a disk that is down.
func fallen(t *testing.T, files ...plain) *disk.Disk {
	t.Helper()
	d := laid(t, files...)
	wantErr(t, "Crash", d.Crash(1<<20), api.OK)
	return d
}

func TestOpenOfNoName(t *testing.T) {
	torn := plain{seg(0), framed("a") + "x", 2}
	for _, name := range badNames() {
		d := laid(t, torn)
		wantNoLog(t, fmt.Sprintf("Open of %q", name), d, name, api.ErrArg)
		wantFiles(t, "behind ErrArg", d, torn)
		wantNoLog(t, "ErrArg ahead of ErrMade", nil, name, api.ErrArg)
		wantNoLog(t, "ErrArg ahead of ErrMade", &disk.Disk{}, name, api.ErrArg)
		wantNoLog(t, "ErrArg ahead of ErrDown", fallen(t, torn), name, api.ErrArg)
	}
}

func TestOpenOfNames(t *testing.T) {
	for _, name := range goodNames() {
		d := made(t, roomy)
		l, err := wal.Open(d, name)
		wantErr(t, "Open of "+name, err, api.OK)
		wantAppend(t, "two", l, "one", "two")
		wantFiles(t, name, d, plain{name + ".000000000000", framed("one", "two"), 0})
		again, err := wal.Open(d, name)
		wantErr(t, "Open of "+name+" again", err, api.OK)
		wantTold(t, name, again, told{0, 2, 2, 1, []string{"one", "two"}})
	}
}

func TestOpenOfNoDisk(t *testing.T) {
	wantNoLog(t, "Open of a nil disk", nil, "log", api.ErrMade)
	wantNoLog(t, "Open of a disk that no call made", &disk.Disk{}, "log", api.ErrMade)
	spoilt := []plain{safe(seg(0), "x"), safe(seg(5), framed("a"))}
	wantNoLog(t, "Open of an empty disk that is down", fallen(t), "log", api.ErrDown)
	wantNoLog(t, "ErrDown ahead of ErrSpoilt", fallen(t, spoilt...), "log", api.ErrDown)
	d := fallen(t, safe("log", "a file of the log's own name"), safe(seg(0), framed("a")))
	before := look(t, d)
	wantNoLog(t, "Open of a disk that is down", d, "log", api.ErrDown)
	wantFace(t, "behind ErrDown", d, before)
}

// others are files that are no segments of the log "log".
func others() []plain {
	var l []plain
	for _, name := range []string{
		"log", "log.", "log.0", "log.00000000000", "log.0000000000000", "log.1000000000000", "log.00000000000a", "log.a00000000000",
		"log.+00000000001", "log.-00000000001", "log.0x0000000001", "log.0_0000000001", "log. 00000000001", "log.00000000001 ", "log.000000.00001",
		"logs.000000000001", "lo.000000000001", "xlog.000000000001", "Log.000000000001", "log,000000000001", "log000000000001", "log..000000000001", ".000000000001", "000000000001",
		"new", "new.000000000000", "ckpt", "ckpt.new", "\xff", "log.\x00\x00\x00\x00\x00\x00\x00\x00\x00\x00\x00\x00", "log.٠٠٠٠٠٠", "log.000000000001\x00",
	} {
		l = append(l, plain{name, "junk of " + name, 3})
	}
	return byName(l...)
}

func byName(l ...plain) []plain {
	slices.SortFunc(l, func(x, y plain) int { return strings.Compare(x.name, y.name) })
	return l
}

func TestOpenOfNothing(t *testing.T) {
	for _, files := range [][]plain{nil, others()} {
		d := laid(t, files...)
		var l *wal.Log
		wantChanges(t, "Open of no segment", d, 0, func() { l = opened(t, d) })
		wantTold(t, "no segment", l, told{})
		wantFiles(t, "no segment", d, files...)
		wantAppend(t, "one", l, "one")
		wantTold(t, "one record", l, told{0, 1, 0, 1, []string{"one"}})
		wantReopened(t, "one record", d, l)
	}
}

func TestOpenAmongOtherFiles(t *testing.T) {
	d := laid(t, append(others(), safe(seg(3), framed("three")), safe(seg(4), framed("four")))...)
	wantTold(t, "among others", opened(t, d), told{3, 5, 5, 2, []string{"three", "four"}})
	wantFiles(t, "among others", d, byName(append(others(), safe(seg(3), framed("three")), safe(seg(4), framed("four")))...)...)
}

// TestOpenOfTwoLogs: each log of a disk has its own files.
func TestOpenOfTwoLogs(t *testing.T) {
	d := made(t, roomy)
	var logs []*wal.Log
	names := []string{"a", "ab", "b", "log", "new"}
	for _, name := range names {
		l, err := wal.Open(d, name)
		wantErr(t, "Open", err, api.OK)
		logs = append(logs, l)
	}
	for i, l := range logs {
		wantAppend(t, names[i], l, names[i], filling(1030, names[i][:1]), "more of "+names[i])
	}
	for i, name := range names {
		l, err := wal.Open(d, name)
		wantErr(t, "Open", err, api.OK)
		wantTold(t, name, l, told{0, 3, 3, 2, []string{name, filling(1030, name[:1]), "more of " + name}})
		wantTold(t, "that of before", logs[i], told{0, 3, 0, 2, []string{name, filling(1030, name[:1]), "more of " + name}})
	}
}

func TestOpenOfSegments(t *testing.T) {
	long := filling(2000, "x")
	cases := []struct {
		what  string
		files []plain
		want  told
	}{
		{"one", []plain{safe(seg(0), framed("a"))}, told{0, 1, 1, 1, []string{"a"}}},
		{"one of several", []plain{safe(seg(0), framed("a", "bb", "ccc"))}, told{0, 3, 3, 1, []string{"a", "bb", "ccc"}}},
		{"one behind what was cut", []plain{safe(seg(77), framed("a", "bb"))}, told{77, 79, 79, 1, []string{"a", "bb"}}},
		{"small ones", []plain{safe(seg(0), framed("a")), safe(seg(1), framed("b", "c")), safe(seg(3), framed("d"))}, told{0, 4, 4, 3, []string{"a", "b", "c", "d"}}},
		{"great ones", []plain{safe(seg(8), framed(long, long)), safe(seg(10), framed(long))}, told{8, 11, 11, 2, []string{long, long, long}}},
		{"across a digit", []plain{safe(seg(9), framed("a")), safe(seg(10), framed("b")), safe(seg(11), framed("c"))}, told{9, 12, 12, 3, []string{"a", "b", "c"}}},
		{"across all digits", []plain{safe(seg(99_999_999_999), framed("a")), safe(seg(100_000_000_000), framed("b"))}, told{99_999_999_999, 100_000_000_001, 100_000_000_001, 2, []string{"a", "b"}}},
		{"any bytes", []plain{safe(seg(0), framed("\x00", "\xff\xfe", framed("a")))}, told{0, 3, 3, 1, []string{"\x00", "\xff\xfe", framed("a")}}},
		{"the highest number", []plain{safe(seg(highest), framed("a"))}, told{highest, highest + 1, highest + 1, 1, []string{"a"}}},
	}
	for _, c := range cases {
		d := laid(t, c.files...)
		wantChanges(t, c.what, d, 0, func() { wantTold(t, c.what, opened(t, d), c.want) })
		wantFiles(t, c.what, d, c.files...)
	}
}

func TestOpenSpoilt(t *testing.T) {
	turned := []byte(framed("aaa", "bbb"))
	turned[10] ^= 1
	cases := []struct {
		what  string
		files []plain
	}{
		{"a gap", []plain{safe(seg(0), framed("a", "b")), safe(seg(3), framed("c"))}},
		{"a gap behind others", []plain{safe(seg(0), framed("a")), safe(seg(1), framed("b")), safe(seg(3), framed("c"))}},
		{"a wide gap", []plain{safe(seg(0), framed("a")), safe(seg(highest), framed("b"))}},
		{"too many records", []plain{safe(seg(0), framed("a", "b", "c")), safe(seg(2), framed("c"))}},
		{"too many records in the second one", []plain{safe(seg(0), framed("a")), safe(seg(1), framed("b", "c")), safe(seg(2), framed("c"))}},
		{"no bytes", []plain{safe(seg(0), ""), safe(seg(1), framed("c"))}},
		{"no whole frame", []plain{safe(seg(0), framed("a")[:4]), safe(seg(1), framed("c"))}},
		{"a byte behind all frames", []plain{safe(seg(0), framed("a", "b")+"x"), safe(seg(2), framed("c"))}},
		{"a frame that ends too early", []plain{safe(seg(0), framed("a", "b")+framed("c")[:3]), safe(seg(2), framed("c"))}},
		{"the last frame ends too early", []plain{safe(seg(0), framed("a", "b")[:11]), safe(seg(2), framed("c"))}},
		{"a turned bit", []plain{safe(seg(0), string(turned)), safe(seg(2), framed("c"))}},
		{"an empty record", []plain{safe(seg(0), framed("a", "", "b")), safe(seg(3), framed("c"))}},
		{"an empty record that is one too many", []plain{safe(seg(0), framed("a", "b", "")), safe(seg(2), framed("c"))}},
		{"an empty record ahead of all", []plain{safe(seg(0), framed("", "a", "b")), safe(seg(2), framed("c"))}},
		{"an empty record alone", []plain{safe(seg(0), framed("")), safe(seg(1), framed("c"))}},
		{"nothing but the last one's number", []plain{safe(seg(0), framed("a")), safe(seg(2), "")}},
	}
	for _, c := range cases {
		for _, torn := range []string{"", "x"} {
			files := slices.Clone(c.files)
			last := &files[len(files)-1]
			*last = plain{last.name, last.all + torn, len(last.all) / 2}
			files = append(files, plain{"new", "left behind", 4})
			d := laid(t, files...)
			d.SetFuse(1, 0)
			before := look(t, d)
			wantNoLog(t, c.what, d, "log", api.ErrSpoilt)
			wantFace(t, c.what, d, before)
		}
	}
}

// leftovers are the files "new" that may be there when a segment is cut off.
func leftovers() [][]plain {
	return [][]plain{nil, {{"new", "", 0}}, {{"new", "left behind by a crash", 5}}}
}

// wantCutOff: of a last segment with such bytes some records are left.
func wantCutOff(t *testing.T, what, all string, records ...string) {
	t.Helper()
	ahead := safe(seg(3), framed("x", "y"))
	for _, old := range leftovers() {
		d := laid(t, append([]plain{ahead, {seg(5), all, len(all) / 2}}, old...)...)
		l := opened(t, d)
		want := told{3, 5 + int64(len(records)), 5 + int64(len(records)), 2, append([]string{"x", "y"}, records...)}
		files := []plain{ahead, safe(seg(5), framed(records...))}
		switch {
		case all == framed(records...):
			files = append(files, old...)
		case len(records) == 0:
			want.segments = 1
			files = append([]plain{ahead}, old...)
		}
		wantTold(t, what, l, want)
		wantFiles(t, what, d, files...)
		wantTold(t, what+", opened again", opened(t, d), want)
		wantAppend(t, "one behind it", l, "more")
		want.records = append(want.records, "more")
		want.next++
		wantTold(t, what+", and one more", l, told{want.first, want.next, want.synced, l.Segments(), want.records})
		wantReopened(t, what+", and one more", d, l)
	}
}

func TestOpenCutsOffWhatIsTorn(t *testing.T) {
	records := []string{"a", "bb", filling(90, "c"), "d"}
	all := framed(records...)
	for n := range len(all) + 1 {
		whole := 0
		for len(framed(records[:whole+1]...)) <= n {
			whole++
			if whole == len(records) {
				break
			}
		}
		wantCutOff(t, fmt.Sprintf("%d bytes of %d", n, len(all)), all[:n], records[:whole]...)
	}
}

func TestOpenCutsOffWhatIsTurned(t *testing.T) {
	records := []string{"a", "bb", "ccc"}
	all := framed(records...)
	for n := range len(all) {
		whole := 0
		for len(framed(records[:whole+1]...)) <= n {
			whole++
		}
		begins := len(framed(records[:whole]...))
		if n == begins {
			continue // The length: what stands there then may be another frame.
		}
		for bit := range 8 {
			b := []byte(all)
			b[n] ^= 1 << bit
			wantCutOff(t, fmt.Sprintf("the bit %d of the byte %d", bit, n), string(b), records[:whole]...)
		}
	}
}

func TestOpenCutsOffOtherBytes(t *testing.T) {
	for _, rest := range []string{
		"x", "\x00", "\x01", "\x80", "\x80\x00", "\x03abc", strings.Repeat("\xff", 9), strings.Repeat("\xff", 30), "\x82\x00a\x00\x00\x00\x00", strings.Repeat("\x00", 4), strings.Repeat("\x00", 700),
		"\x02a\x00\x00\x00\x00", framed("z")[1:], "\x82\x80\x80\x01" + strings.Repeat("z", 100), framed("zz")[:6], strings.Repeat("z", 3000),
	} {
		wantCutOff(t, fmt.Sprintf("%q behind two", rest), framed("a", "bb")+rest, "a", "bb")
		wantCutOff(t, fmt.Sprintf("%q alone", rest), rest)
		wantCutOff(t, fmt.Sprintf("%q ahead of whole ones", rest), framed("a")+rest+framed("bb", "cc"), "a")
	}
}

func TestOpenCutsOffAnEmptyRecord(t *testing.T) {
	wantCutOff(t, "an empty record behind others", framed("a", "b", ""), "a", "b")
	wantCutOff(t, "an empty record among others", framed("a", "b", "", "c", "d"), "a", "b")
	wantCutOff(t, "an empty record ahead of others", framed("", "c", "d"))
	wantCutOff(t, "an empty record alone", framed(""))
	wantCutOff(t, "empty records", framed("a", "", "", "b"), "a")
}

// TestOpenOfFramesThatNoAppendMakes: what counts are whole frames of records that are not empty, however long they are.
func TestOpenOfFramesThatNoAppendMakes(t *testing.T) {
	long := strings.Repeat("x", longest+1)
	most := strings.Repeat("y", api.MaxBytes)
	d := laid(t, safe(seg(0), framed(long)), safe(seg(1), framed("a", most)+"torn"))
	wantTold(t, "long ones", opened(t, d), told{0, 3, 3, 2, []string{long, "a", most}})
	w := wire.NewWriter()
	w.Int(api.MaxBytes + 1)
	wantCutOff(t, "longer than a frame may be", framed("a")+string(w.Out())+strings.Repeat("y", api.MaxBytes+5), "a")
}

// wantSteps: Open makes as many changes as there are steps, each of which tells the files behind a crash in its midst.
func wantSteps(t *testing.T, what string, files []plain, keep int, steps ...[]plain) {
	t.Helper()
	for k, want := range steps {
		d := laid(t, files...)
		wantErr(t, "SetFuse", d.SetFuse(k+1, keep), api.OK)
		wantNoLog(t, what, d, "log", api.ErrDown)
		wantFiles(t, fmt.Sprintf("%s, a crash at change %d", what, k+1), d, want...)
	}
	d := laid(t, files...)
	wantChanges(t, what, d, len(steps), func() { opened(t, d) })
}

func TestOpenCutsOffStepByStep(t *testing.T) {
	frames := framed("a", "bb")
	ahead := plain{seg(0), framed("x"), 2}
	torn := safe(seg(1), frames+"torn")
	old := safe("new", "old")
	whole := safe(seg(1), frames)
	for _, keep := range []int{0, 1, 5, len(frames), 1000} {
		n := min(keep, len(frames))
		back := safe(seg(0), ahead.all[:min(2+keep, len(ahead.all))])
		spare := safe("new", frames[:n])
		wantSteps(t, "without new", []plain{ahead, torn}, keep,
			[]plain{back, torn, spare},               // Append: what a crash keeps
			[]plain{back, torn, spare},               // Sync
			[]plain{back, torn, safe("new", frames)}, // Rename
			[]plain{back, whole},                     // Sync of the one ahead
		)
		wantSteps(t, "with new", []plain{ahead, torn, old}, keep,
			[]plain{back, torn, old}, // Remove
			[]plain{back, torn, spare},
			[]plain{back, torn, spare},
			[]plain{back, torn, safe("new", frames)},
			[]plain{back, whole},
		)
		wantSteps(t, "without a frame", []plain{ahead, safe(seg(1), "torn"), old}, keep,
			[]plain{back, safe(seg(1), "torn"), old}, // Remove of the segment
			[]plain{back, old},                       // Sync of the one ahead
		)
	}
}

func TestOpenSyncs(t *testing.T) {
	a, b, c, e := framed("aa"), framed("bb"), framed("cc"), framed("ee")
	files := []plain{{seg(0), a, 0}, safe(seg(1), b), {seg(2), c, 3}, {seg(3), e, len(e) - 1}}
	wantSteps(t, "by their numbers", files, 1,
		[]plain{safe(seg(0), a[:1]), safe(seg(1), b), safe(seg(2), c[:4]), safe(seg(3), e)},
		[]plain{safe(seg(0), a), safe(seg(1), b), safe(seg(2), c[:4]), safe(seg(3), e)},
		[]plain{safe(seg(0), a), safe(seg(1), b), safe(seg(2), c), safe(seg(3), e)},
	)
	d := laid(t, files...)
	l := opened(t, d)
	wantTold(t, "all counts as synced", l, told{0, 4, 4, 4, []string{"aa", "bb", "cc", "ee"}})
	wantFiles(t, "all is synced", d, safe(seg(0), a), safe(seg(1), b), safe(seg(2), c), safe(seg(3), e))
	wantTold(t, "behind a crash", opened(t, crashed(t, d, 0)), tell(t, l))
	wantChanges(t, "nothing to sync", d, 0, func() { opened(t, d) })
}

func TestOpenOfASegmentWithoutBytes(t *testing.T) {
	for _, ahead := range [][]plain{nil, {safe(seg(4), framed("a", "b", "c"))}} {
		d := laid(t, append(ahead, plain{seg(7), "", 0})...)
		var l *wal.Log
		wantChanges(t, "no bytes", d, 0, func() { l = opened(t, d) })
		want := told{7 - 3*int64(len(ahead)), 7, 7, 1 + len(ahead), []string{"a", "b", "c"}[:3*len(ahead)]}
		wantTold(t, "no bytes", l, want)
		wantFiles(t, "no bytes", d, append(ahead, plain{seg(7), "", 0})...)
		wantTold(t, "no bytes, opened again", opened(t, d), want)
		wantAppend(t, "one", l, "d")
		wantFiles(t, "it takes the next record", d, append(ahead, plain{seg(7), framed("d"), 0})...)
		wantTold(t, "it takes the next record", l, told{want.first, 8, 7, want.segments, append(want.records, "d")})
	}
}

func TestOpenGoesOnWithTheNumberOfTheName(t *testing.T) {
	for _, first := range []int64{0, 1, 7, highest} {
		for _, all := range []string{"x", framed(""), framed("a")[:5], "\x00\x00\x00\x00"} {
			d := laid(t, safe(seg(first), all))
			l := opened(t, d)
			wantTold(t, "no frame", l, told{first, first, first, 0, nil})
			wantFiles(t, "no frame", d)
			// The next Open finds no segment.
			wantTold(t, "opened again", opened(t, d), told{})
			wantAppend(t, "one", l, "a")
			wantTold(t, "one more", l, told{first, first + 1, first, 1, []string{"a"}})
			wantFiles(t, "one more", d, plain{seg(first), framed("a"), 0})
		}
	}
}

// TestOpenGoesOnWithTheSegmentAhead: where the last segment was removed, the one ahead of it is the last one.
func TestOpenGoesOnWithTheSegmentAhead(t *testing.T) {
	d := laid(t, safe(seg(0), framed("a", "b")), safe(seg(2), "x"))
	l := opened(t, d)
	wantAppend(t, "one", l, "c")
	wantFiles(t, "with room for more", d, plain{seg(0), framed("a", "b", "c"), len(framed("a", "b"))})
	wantTold(t, "with room for more", l, told{0, 3, 2, 1, []string{"a", "b", "c"}})
	full := filling(1024, "f")
	d = laid(t, safe(seg(0), framed("a", full)), safe(seg(2), "x"))
	l = opened(t, d)
	wantAppend(t, "one", l, "c")
	wantFiles(t, "without", d, safe(seg(0), framed("a", full)), plain{seg(2), framed("c"), 0})
	wantTold(t, "without", l, told{0, 3, 2, 2, []string{"a", full, "c"}})
}

func TestOpenWithoutRoom(t *testing.T) {
	frames := framed("a", "bb", "ccc")
	torn := safe(seg(0), frames+"torn")
	for _, old := range []string{"", "new", "other"} {
		for short := range 3 {
			room := len(torn.all) + len(frames) - short
			if old == "other" {
				room += 5
			}
			d := made(t, room)
			lay(t, d, torn)
			if old != "" {
				lay(t, d, safe(old, "bytes"))
			}
			if short == 0 {
				wantTold(t, "just room enough", opened(t, d), told{0, 3, 3, 1, []string{"a", "bb", "ccc"}})
				continue
			}
			wantNoLog(t, "without room", d, "log", api.ErrFull)
			left := []plain{torn}
			if old == "other" {
				left = append(left, safe(old, "bytes"))
			}
			wantFiles(t, "without room: nothing is lost but the file new", d, left...)
		}
	}
	// Where no frame is left, no room is needed; nor where nothing is to be cut off.
	d := made(t, 4)
	lay(t, d, safe(seg(3), "torn"))
	wantTold(t, "no frame", opened(t, d), told{3, 3, 3, 0, nil})
	d = made(t, len(frames))
	lay(t, d, plain{seg(3), frames, 2})
	wantTold(t, "nothing to be cut off", opened(t, d), told{3, 6, 6, 1, []string{"a", "bb", "ccc"}})
}

func TestOpenWithoutAFileMore(t *testing.T) {
	torn := safe(seg(0), framed("a")+"torn")
	crowd := func(more ...plain) *disk.Disk {
		d := laid(t, append(more, torn)...)
		for i := len(more) + 1; i < api.MaxFiles; i++ {
			wantErr(t, "Append", d.Append(fmt.Sprintf("other%d", i), nil), api.OK)
		}
		return d
	}
	d := crowd()
	before := look(t, d)
	wantNoLog(t, "MaxFiles files", d, "log", api.ErrLong)
	wantFace(t, "MaxFiles files", d, before)
	wantErr(t, "Remove", d.Remove("other1"), api.OK)
	wantTold(t, "one file less", opened(t, d), told{0, 1, 1, 1, []string{"a"}})
	wantTold(t, "new is one of them", opened(t, crowd(safe("new", "old"))), told{0, 1, 1, 1, []string{"a"}})
}
