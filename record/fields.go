package record

import "orchard/api"

// field is a field of entries or of messages that is named for some Kinds alone.
type field int

const (
	noField field = iota // fills a row
	fieldBallot
	fieldClock
	fieldEntry
	fieldEpoch
	fieldFrom
	fieldLength
	fieldList
	fieldNumber
	fieldOp
	fieldOps
	fieldOrigin
	fieldPart
	fieldRequest
	fieldSeq
	fieldSession
	fieldSite
	fieldSlot
	fieldSponsor
	fieldVector
)

// row are the fields that are named for a Kind, in the order of its form.
type row [4]field

var entryRows = [...]row{
	api.EnNone:   {},
	api.EnLocal:  {fieldSession, fieldRequest, fieldOp},
	api.EnRemote: {fieldOrigin, fieldSeq, fieldOps},
	api.EnEpoch:  {fieldEpoch},
	api.EnKnown:  {fieldSeq, fieldFrom, fieldVector, fieldClock},
	api.EnPart:   {fieldPart},
	api.EnJoin:   {fieldSite, fieldSponsor},
	api.EnLeave:  {fieldSite},
	api.EnSealed: {fieldSite, fieldLength},
}

var msgRows = [...]row{
	api.MsPrepare:  {fieldBallot, fieldSlot},
	api.MsPromise:  {fieldBallot, fieldSlot, fieldList},
	api.MsAccept:   {fieldBallot, fieldList},
	api.MsAccepted: {fieldBallot, fieldSlot},
	api.MsRefuse:   {fieldBallot},
	api.MsChosen:   {fieldList},
	api.MsBeat:     {fieldBallot, fieldSlot},
	api.MsAsk:      {fieldSlot},
	api.MsForward:  {fieldEntry},
	api.MsKnown:    {fieldNumber, fieldVector, fieldClock},
	api.MsPush:     {fieldNumber, fieldOrigin, fieldSlot, fieldOps},
	api.MsEpoch:    {fieldEpoch},
	api.MsPart:     {fieldPart},
	api.MsWant:     {fieldNumber, fieldVector},
	api.MsState:    {fieldSlot, fieldPart},
}

// entryRow is the row of a Kind of entry, and whether api has that Kind.
func entryRow(kind int) (row, bool) {
	if !within(api.EnNone, api.EnSealed, kind) {
		return row{}, false
	}
	return entryRows[kind], true
}

// msgRow is the row of a Kind of message, and whether api has that Kind.
func msgRow(kind int) (row, bool) {
	if !within(api.MsPrepare, api.MsState, kind) {
		return row{}, false
	}
	return msgRows[kind], true
}
