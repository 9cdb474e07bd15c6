package record_test

import (
	"bytes"
	"testing"

	"orchard/api"
	"orchard/record"
	"orchard/wire"
)

// P4.2: ErrLong, and that nothing is put with it.

// filled is a writer that has n bytes.
func filled(t *testing.T, n int) *wire.Writer {
	t.Helper()
	w := wire.NewWriter()
	const most = 1 << 10
	for w.Len()+2*most < n {
		wantErr(t, "Bytes", w.Bytes(make([]byte, most)), api.OK)
	}
	for w.Len() < n {
		wantErr(t, "Int", w.Int(1), api.OK)
	}
	return w
}

type put struct {
	name string
	size int
	do   func(w *wire.Writer) api.Errno
}

func puts() []put {
	return []put{
		{"PutOp", len(opPieces(sampleOp()).bytes()), func(w *wire.Writer) api.Errno { return record.PutOp(w, sampleOp()) }},
		{"PutEpoch", len(epochPieces(sampleEpoch()).bytes()), func(w *wire.Writer) api.Errno { return record.PutEpoch(w, sampleEpoch()) }},
	}
}

func TestPutUpToMaxBytes(t *testing.T) {
	for _, p := range puts() {
		w := filled(t, api.MaxBytes-p.size)
		wantErr(t, p.name+" that fits", p.do(w), api.OK)
		if w.Len() != api.MaxBytes {
			t.Error(p.name, "that fits leaves", w.Len())
		}
		wantErr(t, p.name+" to a full writer", p.do(w), api.ErrLong)
	}
}

// TestPutOfWhatDoesNotFit: however much of it would find room, nothing is put, and the writer goes on.
func TestPutOfWhatDoesNotFit(t *testing.T) {
	for _, p := range puts() {
		for room := range p.size {
			w := filled(t, api.MaxBytes-room)
			before := w.Out()
			wantErr(t, p.name, p.do(w), api.ErrLong)
			if w.Len() != len(before) || !bytes.Equal(w.Out(), before) {
				t.Fatal(p.name, "with room for", room, "has put something")
			}
			if room == 0 {
				continue
			}
			wantErr(t, "Int behind it", w.Int(9), api.OK)
			wantBytes(t, "the writer behind it", w.Out()[len(before):], []byte{18})
		}
	}
}

func TestPutErrFieldAheadOfErrLong(t *testing.T) {
	w := filled(t, api.MaxBytes)
	wantErr(t, "PutOp", record.PutOp(w, api.Op{}), api.ErrField)
	wantErr(t, "PutEpoch", record.PutEpoch(w, api.Epoch{Number: -1}), api.ErrField)
	if w.Len() != api.MaxBytes {
		t.Error("a full writer has", w.Len())
	}
}

// opOf is an operation whose form has n bytes, some 300 to 770.
func opOf(t *testing.T, n int) api.Op {
	t.Helper()
	size := func(text int) int { return len(intForm(int64(text))) + text }
	// A text of 64 bytes or more has a length of two bytes: one text alone would not come to every number.
	for name := range api.MaxText + 1 {
		for key := range api.MaxText + 1 {
			if 5+size(name)+size(key)+size(api.MaxText) == n {
				return api.Op{Kind: 1, Name: text(name), Key: text(key), Value: text(api.MaxText)}
			}
		}
	}
	t.Fatal("no operation has", n, "bytes")
	return api.Op{}
}

// opsOf are operations whose forms have n bytes together.
func opsOf(t *testing.T, n int) []api.Op {
	t.Helper()
	const most = 700
	full := opOf(t, most)
	var l []api.Op
	for n > 2*most {
		l = append(l, full)
		n -= most
	}
	return append(l, opOf(t, n/2), opOf(t, n-n/2))
}

func longEntry(t *testing.T, n int) api.Entry {
	t.Helper()
	head := len(intForm(api.EnRemote)) + 2
	e := api.Entry{Kind: api.EnRemote, Ops: opsOf(t, n-head-2)}
	if got := len(modelEntry(e)); got != n {
		t.Fatalf("an entry of %d bytes, want %d", got, n)
	}
	return e
}

func TestEntryUpToMaxBytes(t *testing.T) {
	e := longEntry(t, api.MaxBytes)
	b := entryBytes(t, e)
	wantBytes(t, "the longest entry", b, modelEntry(e))
	got, err := record.TakeEntry(b)
	if !record.SameEntry(got, e) || err != api.OK {
		t.Error("TakeEntry of the longest entry: error", err)
	}
	for _, n := range []int{api.MaxBytes + 1, api.MaxBytes + 2, 2 * api.MaxBytes} {
		b, err := record.Entry(longEntry(t, n))
		wantErr(t, "Entry of more", err, api.ErrLong)
		wantZero(t, "Entry of more", b)
	}
	e.Ops[len(e.Ops)-1].Name = text(256)
	_, err = record.Entry(e)
	wantErr(t, "Entry of more with a text too long", err, api.ErrField)
}

func longMsg(t *testing.T, n int) api.Msg {
	t.Helper()
	return api.Msg{Kind: api.MsForward, Entry: longEntry(t, n-5)}
}

func TestMarshalUpToMaxBytes(t *testing.T) {
	m := longMsg(t, api.MaxBytes)
	b := msgBytes(t, m)
	wantBytes(t, "the longest message", b, modelMsg(m))
	got, err := record.Unmarshal(b)
	if !record.SameMsg(got, m) || err != api.OK {
		t.Error("Unmarshal of the longest message: error", err)
	}
	m = longMsg(t, api.MaxBytes+1)
	b, err = record.Marshal(m)
	wantErr(t, "Marshal of more", err, api.ErrLong)
	wantZero(t, "Marshal of more", b)
	m.From.Group = 9
	_, err = record.Marshal(m)
	wantErr(t, "Marshal of more from a group that is none", err, api.ErrField)
	wantMsgErr(t, "a frame of more", framed(msgPieces(longMsg(t, api.MaxBytes+1)).bytes()), api.ErrLong)
}

// TestManyOps: a message with as many operations as lists may have, each as long as it may be, may be, but is too long to be written.
func TestManyOps(t *testing.T) {
	op := api.Op{Kind: 1, Name: text(255), Key: text(255), Value: text(255)}
	var ops []api.Op
	for range api.MaxList {
		ops = append(ops, op)
	}
	e := api.Entry{Kind: api.EnRemote, Ops: ops}
	wantErr(t, "CheckEntry", record.CheckEntry(e), api.OK)
	_, err := record.Entry(e)
	wantErr(t, "Entry", err, api.ErrLong)
	var list []api.Slotted
	for range 64 {
		list = append(list, api.Slotted{Entry: e})
	}
	_, err = record.Marshal(api.Msg{Kind: api.MsChosen, List: list})
	wantErr(t, "Marshal", err, api.ErrLong)
	// The chapter names no ErrLong of TakeEntry.
	got, err := record.TakeEntry(modelEntry(e))
	if !record.SameEntry(got, e) || err != api.OK {
		t.Error("TakeEntry of more than MaxBytes: error", err)
	}
}
