package record_test

import (
	"testing"

	"bursary/api"
	"bursary/record"
)

// The chapter's examples, call by call.
func TestExamples(t *testing.T) {
	begin := api.Rec{Kind: api.RecBegin, Lsn: 1, Txn: 7}
	undo := api.Rec{Kind: api.RecDone, Lsn: 5, Txn: 7, Prev: 4, Next: 1, Steps: []api.Step{{Kind: api.StepAdd, Row: api.Row{Key: api.Key{Table: 0, Id: 3}}, By: -2}}}
	for _, q := range []struct {
		name          string
		r             api.Rec
		size          int
		cost, reserve int
	}{
		{"Begin", begin, 21, 1, 2},
		{"Nested", api.Rec{Kind: api.RecNested, Lsn: 4, Txn: 7, Prev: 3, Next: 1}, 29, 1, 0},
		{"Done", undo, 42, 1, 3},
	} {
		expect(t, q.name, record.Check(q.r), api.OK)
		if b, e := record.Encode(q.r); e != api.OK || len(b) != q.size {
			t.Fatalf("%s: Encode: %d bytes, error %d", q.name, len(b), e)
		}
		if n, e := record.Cost(q.r); e != api.OK || n != q.cost {
			t.Fatalf("%s: Cost: %d, error %d", q.name, n, e)
		}
		if n, e := record.Reserve(q.r); e != api.OK || n != q.reserve {
			t.Fatalf("%s: Reserve: %d, error %d", q.name, n, e)
		}
	}
	expect(t, "Check(Nested, Next 3 and Prev 3)", record.Check(api.Rec{Kind: api.RecNested, Lsn: 4, Txn: 7, Prev: 3, Next: 3}), api.ErrRec)
	expect(t, "Check(Ckpt of 7)", record.Check(api.Rec{Kind: api.RecCkpt, Lsn: 4, Txn: 7, NextTxn: 8}), api.ErrRec)
}
