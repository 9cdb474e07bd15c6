package record_test

import (
	"fmt"
	"math"
	"runtime"
	"testing"

	"orchard/api"
	"orchard/record"
	"orchard/wire"
)

// P4.3: what is read of bytes, and which error is told, where several apply.

// reading is one of the calls that read: form are the pieces of a value that may be.
type reading struct {
	name string
	form pieces
	take func(b []byte) (any, api.Errno)
	// behind is what is told of bytes behind the form.
	behind api.Errno
}

func takeOp(b []byte) (any, api.Errno) {
	r := wire.NewReader(b)
	v, err := record.TakeOp(r)
	return taken(b, r, v, err)
}

func takeEpoch(b []byte) (any, api.Errno) {
	r := wire.NewReader(b)
	v, err := record.TakeEpoch(r)
	return taken(b, r, v, err)
}

// taken looks whether the reader stands, with an error, where it stood, and reads on from there.
func taken(b []byte, r *wire.Reader, v any, err api.Errno) (any, api.Errno) {
	first, firstErr := wire.NewReader(b).Int()
	left := r.Left()
	again, againErr := r.Int()
	if err != api.OK && (left != len(b) || again != first || againErr != firstErr) {
		return fmt.Sprint("with an error something was taken: left ", left, " of ", len(b)), err
	}
	return v, err
}

func takeEntry(b []byte) (any, api.Errno) {
	v, err := record.TakeEntry(b)
	return v, err
}

// takeForm is Unmarshal of a frame around the form.
func takeForm(b []byte) (any, api.Errno) {
	v, err := record.Unmarshal(framed(b))
	return v, err
}

func readings() []reading {
	l := []reading{
		{"TakeOp", opPieces(sampleOp()), takeOp, api.OK},
		{"TakeEpoch", epochPieces(sampleEpoch()), takeEpoch, api.OK},
	}
	for _, e := range sampleEntries() {
		l = append(l, reading{fmt.Sprint("TakeEntry, Kind ", e.Kind), entryPieces(e), takeEntry, api.ErrMore})
		m := api.Msg{Kind: api.MsForward, Entry: e}
		l = append(l, reading{fmt.Sprint("Unmarshal, entry's Kind ", e.Kind), msgPieces(m), takeForm, api.ErrMore})
	}
	for _, m := range goodMsgs() {
		l = append(l, reading{fmt.Sprint("Unmarshal, Kind ", m.Kind), msgPieces(m), takeForm, api.ErrMore})
	}
	return l
}

func (x reading) want(t *testing.T, what string, b []byte, want api.Errno) {
	t.Helper()
	v, err := x.take(b)
	if err != want {
		t.Errorf("%s: %s: error %d, want %d", x.name, what, err, want)
	}
	if err != api.OK {
		wantZero(t, x.name+": "+what, v)
	}
}

func TestTakeOfWhole(t *testing.T) {
	for _, x := range readings() {
		b := x.form.bytes()
		x.want(t, "whole", b, api.OK)
		for _, more := range [][]byte{{0}, {255}, {128, 0}, b} {
			x.want(t, "bytes behind it", join(b, more), x.behind)
		}
	}
}

func TestTakeOfBytesThatEnd(t *testing.T) {
	for _, x := range readings() {
		b := x.form.bytes()
		for n := range b {
			x.want(t, fmt.Sprint("the first ", n, " bytes"), b[:n], api.ErrEnds)
		}
	}
}

// notLeast is an int with a byte more than it needs.
func notLeast(b []byte) []byte {
	c := append([]byte{}, b...)
	c[len(c)-1] |= 128
	return append(c, 0)
}

func tooLarge() []byte { return []byte{128, 128, 128, 128, 128, 128, 128, 128, 128, 2} }

func TestTakeOfIntsInAnotherForm(t *testing.T) {
	for _, x := range readings() {
		for i, p := range x.form {
			if p.what == raw {
				continue
			}
			for _, b := range [][]byte{notLeast(p.b), tooLarge()} {
				wrong := x.form.with(i, b)
				x.want(t, fmt.Sprint("another form of piece ", i), wrong.bytes(), api.ErrForm)
				x.want(t, fmt.Sprint("another form, ahead of the end, of piece ", i), wrong[:i+1].bytes(), api.ErrForm)
				x.want(t, fmt.Sprint("another form, and more, of piece ", i), join(wrong.bytes(), []byte{1}), api.ErrForm)
			}
		}
	}
}

// TestTakeOfWrongValues: they are told behind all errors of wire.
func TestTakeOfWrongValues(t *testing.T) {
	for _, x := range readings() {
		for i, p := range x.form {
			if p.what != value {
				continue
			}
			for _, n := range []int64{-2, math.MinInt64, math.MaxInt64} {
				wrong := x.form.with(i, intForm(n))
				b := wrong.bytes()
				what := fmt.Sprint(n, " as piece ", i)
				x.want(t, what, b, api.ErrField)
				x.want(t, what+", cut off", b[:len(b)-1], api.ErrEnds)
				if x.behind != api.OK {
					x.want(t, what+", and more", join(b, []byte{0}), api.ErrMore)
				}
				wantFormBehind(t, x, wrong, i)
			}
		}
	}
}

// wantFormBehind: of a wrong value and an int in another form behind it the second one is told.
func wantFormBehind(t *testing.T, x reading, wrong pieces, at int) {
	t.Helper()
	last := len(wrong) - 1
	for last > at && wrong[last].what == raw {
		last--
	}
	if last > at {
		x.want(t, "a wrong value, then another form", wrong.with(last, notLeast(wrong[last].b)).bytes(), api.ErrForm)
	}
}

// TestTakeOfWrongKindsAndLengths: they are told at once, whatever stands behind them.
func TestTakeOfWrongKindsAndLengths(t *testing.T) {
	for _, x := range readings() {
		for i, p := range x.form {
			if p.what != early {
				continue
			}
			for _, n := range []int64{math.MinInt64, -1, api.MaxList + 1, math.MaxInt64} {
				wrong := x.form.with(i, intForm(n))
				what := fmt.Sprint(n, " as piece ", i)
				x.want(t, what, wrong.bytes(), api.ErrField)
				x.want(t, what+", cut off", wrong[:i+1].bytes(), api.ErrField)
				x.want(t, what+", then another form", join(wrong[:i+1].bytes(), notLeast([]byte{0})), api.ErrField)
				x.want(t, what+", and more", join(wrong.bytes(), []byte{7}), api.ErrField)
			}
		}
	}
}

// TestTakeOfLengthsAtTheEdge: MaxList is read on, so that the bytes end; one more is refused at once.
func TestTakeOfLengthsAtTheEdge(t *testing.T) {
	head := []byte{4, 0, 0}
	wantEntryErr(t, "MaxList operations, none there", join(head, intForm(api.MaxList)), api.ErrEnds)
	wantEntryErr(t, "one more, none there", join(head, intForm(api.MaxList+1)), api.ErrField)
	wantEntryErr(t, "no operation", join(head, intForm(0)), api.ErrField)
	wantEntryErr(t, "no operation, and more", join(head, intForm(0), []byte{0}), api.ErrMore)
	head = []byte{2 * api.MsChosen, 0, 0, 0, 0}
	wantMsgErr(t, "a List of MaxList, none there", framed(join(head, intForm(api.MaxList))), api.ErrEnds)
	wantMsgErr(t, "a List of one more", framed(join(head, intForm(api.MaxList+1))), api.ErrField)
	wantMsgErr(t, "a List of none", framed(join(head, intForm(0))), api.ErrField)
	wantMsgErr(t, "a List of none, and more", framed(join(head, intForm(0), []byte{0})), api.ErrMore)
	head = []byte{2 * api.MsAccept, 0, 0, 0, 0, 0, 0}
	wantMsgErr(t, "a List of two, one there", framed(join(head, intForm(2), []byte{0, 0, 0, 0})), api.ErrEnds)
	wantMsgErr(t, "a List of two", framed(join(head, intForm(2), make([]byte, 8))), api.ErrField)
	wantMsgErr(t, "a List of two, and more", framed(join(head, intForm(2), make([]byte, 9))), api.ErrMore)
}

// TestLengthsAloneTakeNoRoom (THE BOUND): a few bytes that speak of long lists do not make them.
func TestLengthsAloneTakeNoRoom(t *testing.T) {
	entry := join([]byte{4, 0, 0}, intForm(api.MaxList), []byte{0})
	msg := framed(join([]byte{2 * api.MsChosen, 0, 0, 0, 0}, intForm(api.MaxList), []byte{0, 0, 0}, entry))
	var before, behind runtime.MemStats
	runtime.ReadMemStats(&before)
	_, entryErr := record.TakeEntry(entry)
	_, msgErr := record.Unmarshal(msg)
	runtime.ReadMemStats(&behind)
	wantErr(t, "TakeEntry", entryErr, api.ErrEnds)
	wantErr(t, "Unmarshal", msgErr, api.ErrEnds)
	if n := behind.TotalAlloc - before.TotalAlloc; n > 1<<15 {
		t.Error("so many bytes of memory were asked for:", n)
	}
}

// TestTakeOfWrongTexts: of a length below 0 wire tells; one that is too long is told when all is read.
func TestTakeOfWrongTexts(t *testing.T) {
	for _, x := range readings() {
		for i, p := range x.form {
			if p.what != length {
				continue
			}
			x.want(t, fmt.Sprint("-1 as the length in piece ", i), x.form.with(i, intForm(-1)).bytes(), api.ErrForm)
			x.want(t, fmt.Sprint("a length of all in piece ", i), x.form.with(i, intForm(math.MaxInt64)).bytes(), api.ErrEnds)
			long := x.form.with(i, intForm(api.MaxData+1)).with(i+1, make([]byte, api.MaxData+1))
			b := long.bytes()
			x.want(t, "a long text", b, api.ErrField)
			x.want(t, "a long text, cut off", b[:len(b)-1], api.ErrEnds)
			if x.behind != api.OK {
				x.want(t, "a long text, and more", join(b, []byte{0}), api.ErrMore)
			}
		}
	}
}

func TestTakeOneBehindTheOther(t *testing.T) {
	op, epoch := sampleOp(), sampleEpoch()
	r := wire.NewReader(join(opPieces(op).bytes(), epochPieces(epoch).bytes(), opPieces(handOp()).bytes(), []byte{10}))
	if got, err := record.TakeOp(r); got != op || err != api.OK {
		t.Error("TakeOp", got, err)
	}
	if got, err := record.TakeEpoch(r); got != epoch || err != api.OK {
		t.Error("TakeEpoch", got, err)
	}
	if got, err := record.TakeEpoch(r); got != (api.Epoch{}) || err != api.ErrEnds {
		t.Error("TakeEpoch of an operation", got, err)
	}
	if got, err := record.TakeOp(r); got != handOp() || err != api.OK {
		t.Error("TakeOp", got, err)
	}
	if _, err := record.TakeEpoch(r); err != api.ErrEnds {
		t.Error("TakeEpoch of one byte", err)
	}
	if n, err := r.Int(); n != 5 || err != api.OK || r.End() != api.OK {
		t.Error("the int behind them", n, err)
	}
}

// TestUnmarshalFrames: the frame's errors come ahead of the form's.
func TestUnmarshalFrames(t *testing.T) {
	good := modelMsg(sampleMsgs()[api.MsPush])
	none := framed([]byte{0})
	wantMsgErr(t, "nothing", nil, api.ErrEnds)
	wantMsgErr(t, "a frame of nothing", framed(nil), api.ErrEnds)
	for n := range good {
		wantMsgErr(t, "a frame that ends", good[:n], api.ErrEnds)
	}
	wantMsgErr(t, "bytes behind the frame", join(good, []byte{0}), api.ErrMore)
	wantMsgErr(t, "a frame behind the frame", join(good, good), api.ErrMore)
	wantMsgErr(t, "bytes behind a frame of what is none", join(none, []byte{0}), api.ErrMore)
	wantMsgErr(t, "a frame of what is none", none, api.ErrField)
	wantMsgErr(t, "a length below 0", join([]byte{1}, good[1:]), api.ErrForm)
	wantMsgErr(t, "a length in another form", join(notLeast([]byte{2}), []byte{0, 0, 0, 0, 0}), api.ErrForm)
	wantMsgErr(t, "a length above MaxBytes", intForm(api.MaxBytes+1), api.ErrLong)
	none[len(none)-1] ^= 1
	wantMsgErr(t, "another check, of what is none", none, api.ErrCheck)
	wantMsgErr(t, "another check, and more", join(none, []byte{0}), api.ErrCheck)
}
