package waits_test

import (
	"math"
	"testing"

	"bursary/api"
	"bursary/waits"
)

// P9.2: on no cycle: nobody is bound, and there is no victim.
func TestBoundOnNoCycle(t *testing.T) {
	for _, txn := range []int{1, 2, 3, 4, 9} {
		checkBound(t, nil, txn)
		checkBound(t, edges(1, 2), txn)
		checkBound(t, edges(2, 1), txn)
		checkBound(t, goodEdges()["a chain"], txn)
		checkBound(t, goodEdges()["all to one"], txn)
		checkBound(t, goodEdges()["all from one"], txn)
		checkBound(t, edges(1, 2, 1, 3, 2, 4, 3, 4), txn)
	}
}

// P9.2: on one cycle: all of it, rising, wherever the way goes; the youngest is the greatest, not the last one of the way.
func TestBoundOnOneCycle(t *testing.T) {
	for _, txn := range []int{1, 2} {
		checkBound(t, edges(1, 2, 2, 1), txn, 1, 2)
	}
	for _, txn := range []int{1, 3, 5, 9} {
		checkBound(t, goodEdges()["a ring"], txn, 1, 3, 5, 9)
	}
	for _, txn := range upTo(api.MaxLive) {
		checkBound(t, ring(api.MaxLive), txn, upTo(api.MaxLive)...)
	}
	checkBound(t, goodEdges()["the least and the greatest"], 1, 1, math.MaxInt)
	checkBound(t, goodEdges()["above all numbers of layer 10"], api.MaxTxn, api.MaxTxn, api.MaxTxn+1)
	checkBound(t, goodEdges()["alike in 32 bits"], 2, 2, 1<<32+1)
}

// P9.2: on several cycles that meet: all of these, though no cycle is through both.
func TestBoundOnSeveralCycles(t *testing.T) {
	for _, txn := range []int{1, 2, 3} {
		checkBound(t, goodEdges()["the chapter's"], txn, 1, 2, 3)
		checkBound(t, complete(1, 2, 3), txn, 1, 2, 3)
	}
	for _, txn := range []int{1, 2, 3, 4} {
		checkBound(t, goodEdges()["two rings that share one"], txn, 1, 2, 3, 4)
	}
	for _, txn := range []int{9, 10, 100} {
		checkBound(t, goodEdges()["in numbers' order, not texts'"], txn, 9, 10, 100)
	}
	for _, txn := range upTo(api.MaxLive) {
		checkBound(t, complete(upTo(api.MaxLive)...), txn, upTo(api.MaxLive)...)
	}
}

// P9.2: on cycles apart from others: those of its own alone, though a way leads from one to the other.
func TestBoundOnCyclesApart(t *testing.T) {
	l := goodEdges()["two rings apart"]
	checkBound(t, l, 1, 1, 2)
	checkBound(t, l, 2, 1, 2)
	checkBound(t, l, 5, 5, 6)
	checkBound(t, l, 6, 5, 6)
	l = goodEdges()["two rings, a way between"]
	checkBound(t, l, 1, 1, 2)
	checkBound(t, l, 2, 1, 2)
	checkBound(t, l, 3, 3, 4)
	checkBound(t, l, 4, 3, 4)
}

// P9.2: a way leads from it to a cycle, or to it from one, and it is on none: nobody.
func TestBoundBesideACycle(t *testing.T) {
	l := goodEdges()["a way to a ring, and from it"]
	checkBound(t, l, 1)
	checkBound(t, l, 4)
	checkBound(t, l, 2, 2, 3)
	checkBound(t, l, 3, 2, 3)
	checkBound(t, edges(1, 2, 2, 1, 3, 1), 3)
	checkBound(t, edges(1, 2, 1, 3, 2, 1), 3)
	checkBound(t, edges(1, 2, 2, 1, 2, 3, 3, 4, 4, 5, 5, 4), 3) // between two
}

// P9.2: one that no edge names, and what is no transaction: nobody.
func TestBoundOfOneThatNoEdgeNames(t *testing.T) {
	for _, l := range goodEdges() {
		for _, no := range append([]int{42, 1 << 33}, noTxns...) {
			checkBound(t, l, no)
		}
	}
}

// P9.2: ErrEdges, whatever the transaction is, and nothing beside it.
func TestBoundOfWhatMayNotBe(t *testing.T) {
	for name, l := range badEdges() {
		for _, txn := range []int{0, 1, 2, 7, -1, math.MaxInt} {
			in := roomy(l)
			all, err := waits.Bound(in, txn)
			if err != api.ErrEdges || len(all) != 0 {
				t.Fatalf("%s: Bound(%d): %v, error %d", name, txn, all, err)
			}
			victim, err := waits.Victim(in, txn)
			if err != api.ErrEdges || victim != 0 {
				t.Fatalf("%s: Victim(%d): %d, error %d", name, txn, victim, err)
			}
			checkUntouched(t, name, in, l)
		}
	}
}
