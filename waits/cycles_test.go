package waits_test

import (
	"math"
	"slices"
	"testing"

	"bursary/api"
	"bursary/waits"
)

// P9.4: none: on no cycle, beside one, and of one that no edge names.
func TestCyclesOfNone(t *testing.T) {
	for _, txn := range []int{1, 2, 4, 8, 9} {
		checkCycles(t, nil, txn)
		checkCycles(t, edges(1, 2), txn)
		checkCycles(t, goodEdges()["a chain"], txn)
		checkCycles(t, goodEdges()["all to one"], txn)
		checkCycles(t, goodEdges()["all from one"], txn)
		checkCycles(t, edges(1, 2, 1, 3, 2, 4, 3, 4), txn)
	}
	checkCycles(t, goodEdges()["a way to a ring, and from it"], 1)
	checkCycles(t, goodEdges()["a way to a ring, and from it"], 4)
	for _, l := range goodEdges() {
		for _, no := range append([]int{42, 1 << 33}, noTxns...) {
			checkCycles(t, l, no)
		}
	}
}

// P9.4: one: its transactions, from that one on, in the order of the way.
func TestCyclesOfOne(t *testing.T) {
	checkCycles(t, edges(1, 2, 2, 1), 1, []int{1, 2})
	checkCycles(t, edges(1, 2, 2, 1), 2, []int{2, 1})
	l := goodEdges()["a ring"]
	checkCycles(t, l, 1, []int{1, 5, 3, 9})
	checkCycles(t, l, 3, []int{3, 9, 1, 5})
	checkCycles(t, l, 5, []int{5, 3, 9, 1})
	checkCycles(t, l, 9, []int{9, 1, 5, 3})
	checkCycles(t, ring(api.MaxLive), 6, []int{6, 7, 8, 1, 2, 3, 4, 5})
	checkCycles(t, goodEdges()["the least and the greatest"], math.MaxInt, []int{math.MaxInt, 1})
	checkCycles(t, goodEdges()["a way to a ring, and from it"], 3, []int{3, 2})
}

// P9.4: those of other transactions don't count, though a way leads there, and back: none stands twice on a cycle.
func TestCyclesOfOthers(t *testing.T) {
	l := goodEdges()["two rings that share one"]
	checkCycles(t, l, 1, []int{1, 2, 3})
	checkCycles(t, l, 4, []int{4, 3})
	checkCycles(t, l, 3, []int{3, 1, 2}, []int{3, 4})
	l = goodEdges()["two rings, a way between"]
	checkCycles(t, l, 2, []int{2, 1})
	checkCycles(t, l, 3, []int{3, 4})
	checkCycles(t, edges(1, 2, 2, 1, 2, 3, 3, 2, 3, 4, 4, 3), 1, []int{1, 2})
}

// P9.4: several, number by number, as numbers rise, not texts; whichever is longer.
func TestCyclesInOrder(t *testing.T) {
	checkCycles(t, complete(1, 2, 3), 2, []int{2, 1}, []int{2, 1, 3}, []int{2, 3}, []int{2, 3, 1})
	checkCycles(t, edges(1, 9, 1, 10, 9, 1, 10, 1), 1, []int{1, 9}, []int{1, 10})
	checkCycles(t, edges(1, 2, 1, 4, 2, 3, 3, 1, 4, 1), 1, []int{1, 2, 3}, []int{1, 4})
	checkCycles(t, edges(1, 2, 1, 3, 2, 9, 3, 1, 9, 10, 10, 1), 1, []int{1, 2, 9, 10}, []int{1, 3})
	checkCycles(t, edges(1, 2, 2, 3, 2, 4, 3, 1, 4, 1), 1, []int{1, 2, 3}, []int{1, 2, 4})
	checkCycles(t, complete(1, 2, 3, 4), 3,
		[]int{3, 1}, []int{3, 1, 2}, []int{3, 1, 2, 4}, []int{3, 1, 4}, []int{3, 1, 4, 2},
		[]int{3, 2}, []int{3, 2, 1}, []int{3, 2, 1, 4}, []int{3, 2, 4}, []int{3, 2, 4, 1},
		[]int{3, 4}, []int{3, 4, 1}, []int{3, 4, 1, 2}, []int{3, 4, 2}, []int{3, 4, 2, 1})
}

// P9.4: one that is the beginning of another one stands ahead of it, be the next number there less than the transaction, or greater.
func TestCyclesThatBeginAlike(t *testing.T) {
	checkCycles(t, edges(1, 2, 1, 3, 2, 3, 3, 1), 3, []int{3, 1}, []int{3, 1, 2})
	checkCycles(t, edges(1, 2, 2, 1, 2, 3, 3, 1), 1, []int{1, 2}, []int{1, 2, 3})
	checkCycles(t, edges(1, 2, 1, 5, 2, 3, 2, 5, 3, 5, 5, 1), 5, []int{5, 1}, []int{5, 1, 2}, []int{5, 1, 2, 3})
}

// P9.4: all of as many edges as there may be: each once, rising, each a cycle.
func TestCyclesOfAllEdges(t *testing.T) {
	l := complete(upTo(api.MaxLive)...)
	for _, txn := range []int{1, 5, 8} {
		got, err := waits.Cycles(l, txn)
		// Of the seven others each row of n, unlike: 7 + 42 + 210 + 840 + 2520 + 5040 + 5040.
		if err != api.OK || len(got) != 13699 {
			t.Fatalf("%d cycles, error %d", len(got), err)
		}
		for i, c := range got {
			if i > 0 && slices.Compare(got[i-1], c) >= 0 {
				t.Fatalf("%v stands ahead of %v", got[i-1], c)
			}
			sorted := slices.Sorted(slices.Values(c))
			if c[0] != txn || len(c) < 2 || len(slices.Compact(sorted)) != len(c) || sorted[0] < 1 || sorted[len(c)-1] > api.MaxLive {
				t.Fatalf("%v is no cycle", c)
			}
		}
	}
}

// P9.4: ErrEdges, whatever the transaction is, and nothing beside it.
func TestCyclesOfWhatMayNotBe(t *testing.T) {
	for name, l := range badEdges() {
		for _, txn := range []int{0, 1, 2, 7, -1, math.MaxInt} {
			in := roomy(l)
			got, err := waits.Cycles(in, txn)
			if err != api.ErrEdges || len(got) != 0 {
				t.Fatalf("%s: Cycles(%d): %v, error %d", name, txn, got, err)
			}
			checkUntouched(t, name, in, l)
		}
	}
}
