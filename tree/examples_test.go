package tree_test

import (
	"testing"

	"bursary/api"
	"bursary/tree"
)

// P13.2, P13.3: the chapter's examples, call by call.
func TestExamples(t *testing.T) {
	f := tree.New()
	check(t, "Put(1)", put(t, f, rowOf(key(0, 1))), answer{groups: []api.Group{group(pages{0: ids(1)})}})

	f = forest(pages{0: ids(1, 2, 3, 4)})
	got := put(t, f, rowOf(key(0, 5)))
	check(t, "Put(5)", got, answer{groups: []api.Group{
		group(pages{0: inner(to(0, 1), to(3, 2)), 1: ids(1, 2), 2: ids(3, 4)}),
		group(pages{2: ids(3, 4, 5)}),
	}})

	f = apply(t, f, got.groups...).forest
	check(t, "Rows", rows(t, f), answer{rows: ids(1, 2, 3, 4, 5).Rows})
	if depth(t, f) != 2 || freeOf(t, f) != 61 {
		t.Fatalf("Depth is %d, Free is %d", depth(t, f), freeOf(t, f))
	}
	check(t, "Take(1)", take(t, f, key(0, 1)), answer{row: rowOf(key(0, 1)), groups: []api.Group{
		group(pages{0: inner(to(0, 1), to(4, 2)), 1: ids(1, 2, 3), 2: ids(4, 5)}),
		group(pages{1: ids(2, 3)}),
	}})

	refused(t, "Take(1) of none", take(t, tree.New(), key(0, 1)), api.ErrNone)
	refused(t, "Get(1) of none", get(t, tree.New(), key(0, 1)), api.ErrNone)
}

// P13.3: the example's tree from New on: the rows 1 to 5, one by one.
func TestExampleFromNewOn(t *testing.T) {
	f := tree.New()
	for id := range uint16(5) {
		f = apply(t, f, expectOK(t, "Put", put(t, f, rowOf(key(0, id+1)))).groups...).forest
	}
	check(t, "the forest", answer{forest: f}, answer{forest: forest(pages{0: inner(to(0, 1), to(3, 2)), 1: ids(1, 2), 2: ids(3, 4, 5)})})
}
