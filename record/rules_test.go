package record_test

import (
	"reflect"
	"testing"

	"orchard/api"
	"orchard/record"
	"orchard/wire"
)

// R3, R5 and R6 of record; R2 stands in the tests of the calls.

// R5: a writer and a reader that no call made answer ErrMade, ahead of all else.

func TestWritersThatNoCallMade(t *testing.T) {
	for _, w := range []*wire.Writer{nil, {}} {
		wantErr(t, "PutOp", record.PutOp(w, sampleOp()), api.ErrMade)
		wantErr(t, "PutOp of what may not be", record.PutOp(w, api.Op{}), api.ErrMade)
		wantErr(t, "PutEpoch", record.PutEpoch(w, sampleEpoch()), api.ErrMade)
		wantErr(t, "PutEpoch of what may not be", record.PutEpoch(w, api.Epoch{Number: -1}), api.ErrMade)
		if w.Len() != 0 || len(w.Out()) != 0 {
			t.Error("a writer that no call made has", w.Out())
		}
		wantErr(t, "Int behind them", w.Int(1), api.ErrMade)
	}
}

func TestReadersThatNoCallMade(t *testing.T) {
	for _, r := range []*wire.Reader{nil, {}} {
		op, err := record.TakeOp(r)
		wantErr(t, "TakeOp", err, api.ErrMade)
		wantZero(t, "TakeOp", op)
		e, err := record.TakeEpoch(r)
		wantErr(t, "TakeEpoch", err, api.ErrMade)
		wantZero(t, "TakeEpoch", e)
		wantErr(t, "End behind them", r.End(), api.ErrMade)
	}
}

// TestEmptyWritersAndReaders: they are made, though they have nothing.
func TestEmptyWritersAndReaders(t *testing.T) {
	w := wire.NewWriter()
	wantErr(t, "PutOp of what may not be", record.PutOp(w, api.Op{}), api.ErrField)
	wantErr(t, "PutEpoch of what may not be", record.PutEpoch(w, api.Epoch{Number: -1}), api.ErrField)
	if w.Len() != 0 {
		t.Error("with an error was put", w.Out())
	}
	wantErr(t, "PutOp", record.PutOp(w, handOp()), api.OK)
	wantBytes(t, "PutOp", w.Out(), handOpForm())
	r := wire.NewReader(nil)
	_, err := record.TakeOp(r)
	wantErr(t, "TakeOp", err, api.ErrEnds)
	_, err = record.TakeEpoch(r)
	wantErr(t, "TakeEpoch", err, api.ErrEnds)
	wantErr(t, "End", r.End(), api.OK)
}

// TestPutErrFieldChangesNothing: behind what a writer has.
func TestPutErrFieldChangesNothing(t *testing.T) {
	w := wire.NewWriter()
	wantErr(t, "Text", w.Text("abc"), api.OK)
	before := w.Out()
	wantErr(t, "PutOp", record.PutOp(w, api.Op{Name: "x"}), api.ErrField)
	wantErr(t, "PutEpoch", record.PutEpoch(w, api.Epoch{States: [api.MaxSites]int{4}}), api.ErrField)
	wantBytes(t, "the writer", w.Out(), before)
	wantErr(t, "PutOp", record.PutOp(w, handOp()), api.OK)
	wantBytes(t, "the writer", w.Out(), join(before, handOpForm()))
}

// R3: bytes and values that are handed in or answered, and then written to.

func TestEntriesHandedInStayAsTheyAre(t *testing.T) {
	for i := range append(sampleEntries(), laden()) {
		fresh := func() api.Entry { return append(sampleEntries(), laden())[i] }
		e := fresh()
		record.CheckEntry(e)
		b, _ := record.Entry(e)
		record.SameEntry(e, e)
		record.CloneEntry(e)
		if !reflect.DeepEqual(e, fresh()) {
			t.Errorf("an entry that was handed in is %+v", e)
		}
		kept := append([]byte{}, b...)
		spoil(&e)
		wantBytes(t, "Entry, when what was handed in is written to", b, kept)
	}
}

func TestMsgsHandedInStayAsTheyAre(t *testing.T) {
	for i := range append(sampleMsgs(), ladenMsg()) {
		fresh := func() api.Msg { return append(sampleMsgs(), ladenMsg())[i] }
		m := fresh()
		record.CheckMsg(m)
		b, _ := record.Marshal(m)
		record.SameMsg(m, m)
		record.CloneMsg(m)
		if !reflect.DeepEqual(m, fresh()) {
			t.Errorf("a message that was handed in is %+v", m)
		}
		kept := append([]byte{}, b...)
		spoilMsg(&m)
		wantBytes(t, "Marshal, when what was handed in is written to", b, kept)
	}
}

func turnAll(b []byte) {
	for i := range b {
		b[i] ^= 255
	}
}

func TestBytesHandedInAreNotKept(t *testing.T) {
	for _, e := range sampleEntries() {
		b := modelEntry(e)
		got, err := record.TakeEntry(b)
		wantErr(t, "TakeEntry", err, api.OK)
		wantBytes(t, "what was handed in", b, modelEntry(e))
		turnAll(b)
		wantSameEntry(t, "what was read and its bytes turned", got, e, true)
	}
	for _, m := range goodMsgs() {
		b := modelMsg(m)
		got, err := record.Unmarshal(b)
		wantErr(t, "Unmarshal", err, api.OK)
		wantBytes(t, "what was handed in", b, modelMsg(m))
		turnAll(b)
		wantSameMsg(t, "what was read and its bytes turned", got, m, true)
	}
}

// TestAnswersAreNobodysElse: what is answered twice has nothing in common, and R6: it is the same.
func TestAnswersAreNobodysElse(t *testing.T) {
	for _, e := range sampleEntries() {
		form := modelEntry(e)
		turnAll(entryBytes(t, e))
		wantBytes(t, "Entry once more", entryBytes(t, e), form)
		one, _ := record.TakeEntry(form)
		other, _ := record.TakeEntry(form)
		spoil(&one)
		wantSameEntry(t, "one read and the other written to", other, e, true)
		wantBytes(t, "the bytes of what was read and written to", form, modelEntry(e))
	}
	for _, m := range goodMsgs() {
		form := modelMsg(m)
		turnAll(msgBytes(t, m))
		wantBytes(t, "Marshal once more", msgBytes(t, m), form)
		one, _ := record.Unmarshal(form)
		other, _ := record.Unmarshal(form)
		spoilMsg(&one)
		wantSameMsg(t, "one read and the other written to", other, m, true)
		wantBytes(t, "the bytes of what was read and written to", form, modelMsg(m))
	}
}

// TestListsOfOneAnswer: no two lists of one answer share memory.
func TestListsOfOneAnswer(t *testing.T) {
	part := api.Entry{Kind: api.EnPart, Part: samplePart()}
	remote := sampleEntries()[api.EnRemote]
	m := api.Msg{Kind: api.MsChosen, List: []api.Slotted{{Entry: part}, {Entry: remote}, {Entry: part}, {Entry: remote}}}
	read, err := record.Unmarshal(modelMsg(m))
	wantErr(t, "Unmarshal", err, api.OK)
	for _, c := range []api.Msg{read, record.CloneMsg(m)} {
		spoil(&c.List[0].Entry)
		spoil(&c.List[1].Entry)
		c.List[0].Entry.Part.Data = append(c.List[0].Entry.Part.Data, 1, 2, 3)
		c.List[1].Entry.Ops = append(c.List[1].Entry.Ops, api.Op{Kind: 9})
		wantSameEntry(t, "a part and another one written to", c.List[2].Entry, part, true)
		wantSameEntry(t, "operations and other ones written to", c.List[3].Entry, remote, true)
	}
}
