package log_test

import (
	"testing"

	"bursary/api"
	"bursary/log"
)

// P16.1 to P16.5: the chapter's examples, call by call, all of one log.
func TestExamples(t *testing.T) {
	l, e := log.Format(made(t, 452), api.LogArea)
	expect(t, "Format", e, api.OK)
	first := api.Rec{Kind: api.RecBegin, Lsn: 1, Txn: 7}
	expect(t, "Append", l.Append(first, 2), api.OK)
	expect(t, "Append of the same", l.Append(first, 2), api.ErrArg)

	if l.Used() != 1 || l.Flushed() != 0 {
		t.Fatalf("Used %d, Flushed %d", l.Used(), l.Flushed())
	}
	expect(t, "Flush(1)", l.Flush(1), api.OK)
	if l.Flushed() != 1 {
		t.Fatalf("Flushed %d", l.Flushed())
	}
	expect(t, "Flush(2)", l.Flush(2), api.ErrArg)

	expect(t, "Append of a Commit", l.Append(api.Rec{Kind: api.RecCommit, Lsn: 2, Txn: 7, Prev: 1}, 399), api.ErrLogFull)

	expect(t, "Truncate", l.Truncate(2, 0, 8), api.OK)
	if l.Base() != 2 || l.Next() != 2 || l.NextTxn() != 8 {
		t.Fatalf("Base %d, Next %d, NextTxn %d", l.Base(), l.Next(), l.NextTxn())
	}
	lacks(t, "cut off", l, 1)
}
