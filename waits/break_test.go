package waits_test

import (
	"math"
	"testing"

	"bursary/api"
	"bursary/waits"
)

// P9.3: nobody goes: all edges are left.
func TestBreakWhereNobodyGoes(t *testing.T) {
	for _, name := range []string{"none", "empty", "one", "a chain", "a chain, falling", "all to one", "all from one", "pairs of as many as may be"} {
		l := goodEdges()[name]
		for _, txn := range []int{1, 2, 4, 8, 9} {
			checkBreak(t, l, txn, nil, l)
		}
	}
}

// P9.3: who is on no cycle takes nobody away, though a way leads from it to one, or to it from one, or there is one apart.
func TestBreakBesideACycle(t *testing.T) {
	l := goodEdges()["a way to a ring, and from it"]
	checkBreak(t, l, 1, nil, l)
	checkBreak(t, l, 4, nil, l)
	l = edges(1, 2, 2, 1, 3, 4)
	checkBreak(t, l, 3, nil, l)
	checkBreak(t, l, 4, nil, l)
	for _, l := range goodEdges() {
		for _, no := range append([]int{42, 1 << 33}, noTxns...) {
			checkBreak(t, l, no, nil, l)
		}
	}
}

// P9.3: one goes, with the edges from it and to it; all others are left.
func TestBreakWhereOneGoes(t *testing.T) {
	checkBreak(t, edges(1, 2, 2, 1), 1, []int{2}, nil)
	checkBreak(t, goodEdges()["a ring"], 3, []int{9}, edges(1, 5, 5, 3))
	checkBreak(t, goodEdges()["a way to a ring, and from it"], 2, []int{3}, edges(1, 2))
	checkBreak(t, edges(1, 2, 1, 5, 2, 3, 5, 1, 5, 3), 1, []int{5}, edges(1, 2, 2, 3))
	checkBreak(t, goodEdges()["the least and the greatest"], 1, []int{math.MaxInt}, nil)
	checkBreak(t, ring(api.MaxLive), 1, []int{api.MaxLive}, chain(api.MaxLive-1))
}

// P9.3: cycles elsewhere are left, those to which a way leads from its own, and those from which one leads to it.
func TestBreakLeavesOtherCycles(t *testing.T) {
	l := goodEdges()["two rings apart"]
	checkBreak(t, l, 1, []int{2}, edges(5, 6, 6, 5))
	checkBreak(t, l, 5, []int{6}, edges(1, 2, 2, 1))
	l = goodEdges()["two rings, a way between"]
	checkBreak(t, l, 1, []int{2}, edges(3, 4, 4, 3))
	checkBreak(t, l, 3, []int{4}, edges(1, 2, 2, 1, 2, 3))
}

// P9.3: several go, one behind the other, in the order in which they are taken away.
func TestBreakWhereSeveralGo(t *testing.T) {
	checkBreak(t, edges(1, 2, 1, 3, 2, 1, 3, 1), 1, []int{3, 2}, nil)
	checkBreak(t, edges(1, 2, 2, 3, 2, 4, 3, 1, 3, 5, 4, 3), 1, []int{4, 3}, edges(1, 2))
	checkBreak(t, edges(1, 3, 2, 4, 3, 1, 3, 2, 4, 3), 1, []int{4, 3}, nil)
	checkBreak(t, edges(1, 5, 1, 9, 2, 5, 5, 1, 9, 1, 9, 5), 1, []int{9, 5}, nil)
	checkBreak(t, complete(1, 2, 3), 1, []int{3, 2}, nil)
	checkBreak(t, complete(1, 2, 3, 4), 2, []int{4, 3, 2}, nil)
	checkBreak(t, complete(upTo(api.MaxLive)...), 1, []int{8, 7, 6, 5, 4, 3, 2}, nil)
	checkBreak(t, complete(upTo(api.MaxLive)...), 4, []int{8, 7, 6, 5, 4}, complete(1, 2, 3))
}

// P9.3: a victim need be on no cycle through the transaction: who is bound with it is enough.
func TestBreakOfOneBoundFarOff(t *testing.T) {
	checkBreak(t, goodEdges()["two rings that share one"], 1, []int{4, 3}, edges(1, 2))
	checkBreak(t, edges(1, 2, 2, 1, 2, 3, 3, 2, 3, 4, 4, 3), 1, []int{4, 3, 2}, nil)
}

// P9.3: who was bound, and is so no more when another one is gone, stays.
func TestBreakLetsOthersStay(t *testing.T) {
	// 4 is the way from 1 to 3 and back, and 2 and 3 wait for each other behind it.
	checkBreak(t, edges(1, 4, 2, 3, 3, 2, 3, 4, 4, 1, 4, 2), 1, []int{4}, edges(2, 3, 3, 2))
}

// P9.3: the transaction itself goes, first or behind others; what is bound with others then is left.
func TestBreakOfItself(t *testing.T) {
	checkBreak(t, edges(1, 2, 2, 1), 2, []int{2}, nil)
	checkBreak(t, goodEdges()["a ring"], 9, []int{9}, edges(1, 5, 5, 3))
	checkBreak(t, edges(1, 2, 1, 3, 2, 1, 3, 1), 3, []int{3}, edges(1, 2, 2, 1))
	checkBreak(t, complete(1, 2, 3), 3, []int{3}, complete(1, 2))
	checkBreak(t, complete(1, 2, 3), 2, []int{3, 2}, nil)
	checkBreak(t, edges(1, 2, 2, 1, 2, 3, 3, 2), 2, []int{3, 2}, nil)
	checkBreak(t, complete(upTo(api.MaxLive)...), api.MaxLive, []int{api.MaxLive}, complete(upTo(api.MaxLive-1)...))
}

// P9.3: ErrEdges, whatever the transaction is, and nothing beside it.
func TestBreakOfWhatMayNotBe(t *testing.T) {
	for name, l := range badEdges() {
		for _, txn := range []int{0, 1, 2, 7, -1, math.MaxInt} {
			in := roomy(l)
			gone, left, err := waits.Break(in, txn)
			if err != api.ErrEdges || len(gone) != 0 || len(left) != 0 {
				t.Fatalf("%s: Break(%d): %v, %v, error %d", name, txn, gone, left, err)
			}
			checkUntouched(t, name, in, l)
		}
	}
}
