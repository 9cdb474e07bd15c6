package record_test

import (
	"testing"

	"orchard/api"
	"orchard/record"
)

// TestChapterExamples: the examples of the chapter, as they stand there.
func TestChapterExamples(t *testing.T) {
	wantBytes(t, "Entry of EnNone", entryBytes(t, api.Entry{Kind: api.EnNone}), []byte{0})
	wantBytes(t, "Entry of EnLeave, Site 3", entryBytes(t, api.Entry{Kind: api.EnLeave, Site: 3}), []byte{14, 6})
	wantEntryErr(t, "14", []byte{14}, api.ErrEnds)
	wantEntryErr(t, "14 6 0", []byte{14, 6, 0}, api.ErrMore)
	wantEntryErr(t, "14 100", []byte{14, 100}, api.ErrField)
	wantErr(t, "an EnLocal with Request 0", record.CheckEntry(api.Entry{Kind: api.EnLocal, Session: 1, Op: api.Op{Kind: api.OpMake}}), api.ErrField)
	wantErr(t, "the same with Request 1", record.CheckEntry(api.Entry{Kind: api.EnLocal, Session: 1, Request: 1, Op: api.Op{Kind: api.OpMake}}), api.OK)
	wantErr(t, "an EnNone with Site 1", record.CheckEntry(api.Entry{Site: 1}), api.ErrField)
}
