package waits_test

import (
	"math"
	"slices"
	"testing"

	"bursary/api"
	"bursary/waits"
)

// P9.5: of nothing: the edges as they are.
func TestAddOfNothing(t *testing.T) {
	for _, l := range goodEdges() {
		checkAdd(t, l, nil, l)
		checkAdd(t, l, []api.Edge{}, l)
		got, err := waits.Add(l)
		if err != api.OK || !slices.Equal(got, l) {
			t.Fatalf("Add(%v): %v, error %d", l, got, err)
		}
	}
}

// P9.5: each stands in its place, whatever the order is in which they come.
func TestAddInOrder(t *testing.T) {
	checkAdd(t, nil, edges(1, 2), edges(1, 2))
	checkAdd(t, edges(2, 3), edges(1, 2), edges(1, 2, 2, 3))
	checkAdd(t, edges(2, 3), edges(3, 1), edges(2, 3, 3, 1))
	checkAdd(t, edges(2, 3), edges(2, 1), edges(2, 1, 2, 3))
	checkAdd(t, edges(2, 3), edges(2, 4), edges(2, 3, 2, 4))
	checkAdd(t, edges(1, 2, 3, 1), edges(2, 3), edges(1, 2, 2, 3, 3, 1))
	checkAdd(t, edges(1, 10), edges(1, 9), edges(1, 9, 1, 10))
	checkAdd(t, edges(10, 1), edges(9, 1), edges(9, 1, 10, 1))
	checkAdd(t, edges(1<<32+1, 2), edges(3, 2), edges(3, 2, 1<<32+1, 2))
	checkAdd(t, edges(2, 1, 4, 3), edges(1, 2, 1, 3, 3, 1, 4, 1, 4, 5), edges(1, 2, 1, 3, 2, 1, 3, 1, 4, 1, 4, 3, 4, 5))
	checkAdd(t, edges(2, 1, 4, 3), edges(4, 5, 1, 3, 3, 1, 4, 1, 1, 2), edges(1, 2, 1, 3, 2, 1, 3, 1, 4, 1, 4, 3, 4, 5))
	all := complete(upTo(api.MaxLive)...)
	falling := slices.Clone(all)
	slices.Reverse(falling)
	checkAdd(t, nil, all, all)
	checkAdd(t, nil, falling, all)
	checkAdd(t, chain(api.MaxLive), falling, all)
}

// P9.5: those that are there already change nothing; one that comes twice comes once.
func TestAddOfWhatIsThere(t *testing.T) {
	for _, l := range goodEdges() {
		checkAdd(t, l, l, l)
		checkAdd(t, nil, l, l)
		checkAdd(t, nil, slices.Concat(l, l), l)
		checkAdd(t, l, slices.Repeat(l, 3), l)
		for _, e := range l {
			checkAdd(t, l, []api.Edge{e}, l)
		}
	}
	checkAdd(t, edges(1, 2), edges(1, 2, 2, 1, 1, 2, 2, 1, 2, 1), edges(1, 2, 2, 1))
	checkAdd(t, nil, edges(3, 1, 1, 2, 3, 1, 1, 2), edges(1, 2, 3, 1))
	checkAdd(t, edges(1, 2, 2, 3), edges(2, 3, 1, 3, 1, 3), edges(1, 2, 1, 3, 2, 3))
}

// P9.5: ErrArg of what is no edge, alone, ahead, in between, behind, and twice.
func TestAddOfWhatIsNoEdge(t *testing.T) {
	for _, l := range [][]api.Edge{nil, edges(1, 2), edges(1, 2, 2, 1, 2, 3, 3, 2)} {
		bad := edges(1, 1, 2, 2, 42, 42, math.MaxInt, math.MaxInt)
		for _, no := range noTxns {
			bad = append(bad, edges(no, 1, 1, no, no, no, no, no+1, math.MaxInt, no)...)
		}
		for _, e := range bad {
			one := []api.Edge{e}
			refuseAdd(t, l, one, api.ErrArg)
			refuseAdd(t, l, append(one, e), api.ErrArg)
			refuseAdd(t, l, slices.Concat(one, edges(1, 2, 2, 3)), api.ErrArg)
			refuseAdd(t, l, slices.Concat(edges(1, 2), one, edges(2, 3)), api.ErrArg)
			refuseAdd(t, l, slices.Concat(edges(1, 2, 2, 3), one), api.ErrArg)
		}
	}
}

// P9.5: as many transactions as there may be, of those that are there and those that come together, and one more.
func TestAddOfManyTransactions(t *testing.T) {
	checkAdd(t, nil, chain(api.MaxLive), chain(api.MaxLive))
	refuseAdd(t, nil, chain(api.MaxLive+1), api.ErrArg)
	refuseAdd(t, nil, chain(1000), api.ErrArg)
	checkAdd(t, chain(api.MaxLive-1), edges(api.MaxLive, 1), append(chain(api.MaxLive-1), api.Edge{From: api.MaxLive, To: 1}))
	checkAdd(t, chain(api.MaxLive-1), edges(api.MaxLive-1, api.MaxLive), chain(api.MaxLive))
	checkAdd(t, chain(api.MaxLive), edges(api.MaxLive, 1), ring(api.MaxLive))
	refuseAdd(t, chain(api.MaxLive), edges(api.MaxLive, 9), api.ErrArg)
	refuseAdd(t, chain(api.MaxLive), edges(9, 1), api.ErrArg)
	refuseAdd(t, chain(api.MaxLive), edges(9, 10), api.ErrArg)
	refuseAdd(t, chain(api.MaxLive), edges(1, 2, 9, 1, 1, 2), api.ErrArg)
	checkAdd(t, edges(1, 2, 3, 4), edges(5, 6, 7, 8), edges(1, 2, 3, 4, 5, 6, 7, 8))
	refuseAdd(t, edges(1, 2, 3, 4, 5, 6), edges(7, 8, 7, 9), api.ErrArg)
	refuseAdd(t, edges(1, 2, 3, 4, 5, 6), edges(1, 9, 8, 7), api.ErrArg)
	refuseAdd(t, edges(1, 2, 3, 4, 5, 6), edges(7, 8, 9, 10), api.ErrArg)
	refuseAdd(t, complete(upTo(api.MaxLive)...), edges(1, 1<<32+1), api.ErrArg)
}

// P9.5: ErrEdges ahead of ErrArg, and of all that may come; nothing beside it.
func TestAddToWhatMayNotBe(t *testing.T) {
	for _, l := range badEdges() {
		for _, more := range [][]api.Edge{nil, edges(1, 2), edges(1, 1), edges(0, 1), chain(api.MaxLive + 1)} {
			refuseAdd(t, l, more, api.ErrEdges)
		}
		refuseAdd(t, l, l, api.ErrEdges)
	}
}

// R1: very many edges that come are added, or refused, soon.
func TestAddOfVeryManyEdges(t *testing.T) {
	all := complete(upTo(api.MaxLive)...)
	many := slices.Repeat(all, 20000)
	checkAdd(t, nil, many, all)
	many[len(many)-1] = api.Edge{From: 9, To: 1}
	refuseAdd(t, nil, many, api.ErrArg)
	many[len(many)-1] = api.Edge{From: 1, To: 1}
	refuseAdd(t, all, many, api.ErrArg)
	refuseAdd(t, all, chain(1<<20), api.ErrArg)
}

// P9.5: without those from it and to it; all others stay, in order.
func TestWithout(t *testing.T) {
	l := edges(1, 2, 1, 3, 2, 1, 2, 3, 3, 1, 3, 4, 4, 2)
	checkWithout(t, l, 1, edges(2, 3, 3, 4, 4, 2))
	checkWithout(t, l, 2, edges(1, 3, 3, 1, 3, 4))
	checkWithout(t, l, 3, edges(1, 2, 2, 1, 4, 2))
	checkWithout(t, l, 4, edges(1, 2, 1, 3, 2, 1, 2, 3, 3, 1))
	checkWithout(t, edges(1, 2), 1, nil)
	checkWithout(t, edges(1, 2), 2, nil)
	checkWithout(t, goodEdges()["all to one"], 4, nil)
	checkWithout(t, goodEdges()["all from one"], 4, nil)
	checkWithout(t, goodEdges()["all to one"], 8, edges(1, 4, 2, 4, 3, 4, 5, 4))
	checkWithout(t, goodEdges()["alike in 32 bits"], 1, edges(2, 1<<32+1, 1<<32+1, 2))
	checkWithout(t, goodEdges()["the least and the greatest"], math.MaxInt, nil)
	for _, txn := range upTo(api.MaxLive) {
		others := slices.DeleteFunc(upTo(api.MaxLive), func(n int) bool { return n == txn })
		checkWithout(t, complete(upTo(api.MaxLive)...), txn, complete(others...))
	}
}

// P9.5: one that no edge names, and what is no transaction: all edges stay.
func TestWithoutOneThatNoEdgeNames(t *testing.T) {
	for _, l := range goodEdges() {
		for _, no := range append([]int{42, 1 << 33}, noTxns...) {
			checkWithout(t, l, no, l)
		}
	}
}

// P9.5: ErrEdges, whatever the transaction is, and nothing beside it.
func TestWithoutOfWhatMayNotBe(t *testing.T) {
	for name, l := range badEdges() {
		for _, txn := range []int{0, 1, 2, 7, -1, math.MaxInt} {
			in := roomy(l)
			got, err := waits.Without(in, txn)
			if err != api.ErrEdges || len(got) != 0 {
				t.Fatalf("%s: Without(%d): %v, error %d", name, txn, got, err)
			}
			checkUntouched(t, name, in, l)
		}
	}
}
