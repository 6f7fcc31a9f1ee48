package ideal_test

import (
	"testing"

	"bursary/api"
)

// P15.3: the chapter's examples of rows, call by call.
func TestExamplesOfRows(t *testing.T) {
	l := rows(at(0, 1, 4, ""), at(0, 2, 9, ""))
	checkDo(t, "Add 0 1, 7", example, l, add(key(0, 1), 7), l, fails(api.ErrBound))
	checkDo(t, "Add 0 1, 6", example, l, add(key(0, 1), 6), rows(at(0, 1, 10, ""), at(0, 2, 9, "")), fine)
	checkDo(t, "Add 0 3, 1", example, l, add(key(0, 3), 1), l, fails(api.ErrNone))

	moved := rows(at(0, 1, 9, ""), at(0, 2, 4, ""))
	checkDo(t, "Move 0 2 to 0 1, 5", example, l, move(key(0, 2), key(0, 1), 5), moved, fine)
	checkDo(t, "Move 0 1 to 0 2, 5", example, l, move(key(0, 1), key(0, 2), 5), l, fails(api.ErrBound))

	checkDo(t, "Insert 0 1, 11", example, l, insert(key(0, 1), 11, ""), l, fails(api.ErrBound))
	checkDo(t, "Insert 0 1, 1", example, l, insert(key(0, 1), 1, ""), l, fails(api.ErrThere))
	checkDo(t, "Set 0 9, 1", example, l, set(key(0, 9), 1), l, fails(api.ErrNone))
}

// P15.4: the chapter's example of a savepoint, step by step.
func TestExampleOfASavepoint(t *testing.T) {
	l := rows(at(0, 1, 4, ""), at(0, 2, 9, ""))
	x, e := begin(t, example, l)
	expect(t, "Begin", e, api.OK)
	left := begun(example, l...)
	left.Marks = [][]api.Row{l}
	x = checkStep(t, "Mark", x, mark(), left, counts(1))
	left.Rows = rows(at(0, 1, 5, ""), at(0, 2, 9, ""))
	x = checkStep(t, "Add 0 1, 1", x, add(key(0, 1), 1), left, fine)
	left.Rows = l
	x = checkStep(t, "Back 1", x, back(1), left, fine)
	checkStep(t, "Read 0 1", x, read(key(0, 1)), left, tells(at(0, 1, 4, "")))
}
