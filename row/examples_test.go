package row_test

import (
	"math"
	"testing"

	"bursary/api"
	"bursary/row"
)

// P5.1: the chapter's first example.
func TestExampleCheckRow(t *testing.T) {
	expect(t, "CheckRow(s, {0 7} 11)", row.CheckRow(example, at(0, 7, 11, "")), api.ErrBound)
	expect(t, "CheckRow(s, {2 7} 1)", row.CheckRow(example, at(2, 7, 1, "")), api.ErrRow)
	expect(t, "CheckRow of a note of nine bytes", row.CheckRow(example, at(0, 7, 1, "ninebytes")), api.ErrLong)
}

// P5.2, P5.3: the chapter's second example.
func TestExamplePut(t *testing.T) {
	l, e := row.Put(example, []api.Row{at(0, 1, 0, ""), at(1, 0, 0, "")}, at(0, 2, 0, ""))
	checkList(t, "Put(s, {0 1} / {1 0}, {0 2})", l, e, []api.Row{at(0, 1, 0, ""), at(0, 2, 0, ""), at(1, 0, 0, "")})
	checkFind(t, l, key(1, 0), 2)
}

// P5.3, P5.4: the chapter's third example.
func TestExampleTake(t *testing.T) {
	refusedTake(t, "Take(s, {0 1}, {0 2})", example, []api.Row{at(0, 1, 0, "")}, key(0, 2), api.ErrNone)
	if sum, fits := row.Plus(math.MaxInt64, 1); sum != 0 || fits {
		t.Errorf("Plus(2^63 - 1, 1): %d, %t", sum, fits)
	}
}
