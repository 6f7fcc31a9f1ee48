package page_test

import (
	"testing"

	"bursary/api"
)

// P11.2, P11.3, P11.4: the chapter's examples, call by call.
func TestExamples(t *testing.T) {
	a := ids(1, 2, 3, 4)
	check(t, "Split(a)", split(t, a), answer{a: ids(1, 2), b: ids(3, 4), key: key(0, 3)})

	check(t, "Join(1 2, 5, 5)", join(t, ids(1, 2), ids(5), key(0, 5)), answer{a: ids(1, 2, 5)})
	check(t, "Level(1, 5 6 7, 5)", level(t, ids(1), ids(5, 6, 7), key(0, 5)), answer{a: ids(1, 5), b: ids(6, 7), key: key(0, 6)})
	check(t, "Level(1 2 3, 5, 5)", level(t, ids(1, 2, 3), ids(5), key(0, 5)), answer{a: ids(1, 2), b: ids(3, 5), key: key(0, 3)})

	refused(t, "Put(a, 5)", put(t, a, rowOf(key(0, 5))), api.ErrFull)
	check(t, "Put(a, 4)", put(t, a, at(0, 4, 5, "four")), answer{a: leaf(a.Rows[0], a.Rows[1], a.Rows[2], at(0, 4, 5, "four"))})
	refused(t, "Take(a, 9)", take(t, a, key(0, 9)), api.ErrNone)
	refused(t, "Get(free, 1)", get(t, free, key(0, 1)), api.ErrLeaf)

	check(t, "Kid(kids from zero, 3, 5; 4)", kid(t, kids(7, 3, 5), key(0, 4)), answer{n: 1})
	refused(t, "Disown(two kids, 1)", disown(t, kids(7, 3), 1), api.ErrArg)
}
