package escrow_test

import (
	"testing"

	"bursary/api"
	"bursary/escrow"
)

// P10.2 to P10.5: the chapter's examples, one behind the other.
func TestExamples(t *testing.T) {
	e := add(t, rows(), 1, 5)
	refuseAdd(t, "the first line", e, k, adding(2, 2, 4, bounds), api.ErrBound)
	e = add(t, e, 2, -4)

	e = add(t, e, 1, -1)
	checkEndsOf(t, e, 0, 4, 9)

	e = back(t, e, 1, -1)
	e = back(t, e, 1, 5)
	checkEndsOf(t, e, 0, 0, 9)
	refuseAdd(t, "the third line", e, k, adding(2, 6, 4, bounds), api.ErrBound)

	e, err := escrow.Over(e, 1, false)
	expect(t, "Over(1, not)", err, api.OK)
	e = add(t, e, 2, 6)
	checkEndsOf(t, e, 0, 6, 6)
	e, err = escrow.Over(e, 2, true)
	checkAnswer(t, "Over(2, commits)", e, err, rows())
}

// add is the escrow behind an Add to the examples' key.
func add(t *testing.T, e api.Escrow, txn int, by int64) api.Escrow {
	t.Helper()
	out, err := escrow.Add(e, k, adding(txn, by, 4, bounds))
	expect(t, "Add", err, api.OK)
	return out
}

// back is the escrow behind a Back of the examples' key.
func back(t *testing.T, e api.Escrow, txn int, d int64) api.Escrow {
	t.Helper()
	out, err := escrow.Back(e, k, txn, d)
	expect(t, "Back", err, api.OK)
	return out
}

// checkEndsOf holds the ends of the examples' key against those that are wanted.
func checkEndsOf(t *testing.T, e api.Escrow, lesser, now, greater int64) {
	t.Helper()
	p, there := escrow.Find(e, k)
	if !there {
		t.Fatalf("%v: the key is not pending", e)
	}
	checkEnds(t, "the examples' key", p, lesser, now, greater)
}
