package waits_test

import (
	"math"
	"testing"

	"bursary/api"
)

// P9.1: a way of one edge, along it and not against it.
func TestLeadsByOneEdge(t *testing.T) {
	checkLeads(t, edges(1, 2), 1, 2, true)
	checkLeads(t, edges(1, 2), 2, 1, false)
	checkLeads(t, edges(2, 1), 2, 1, true)
	checkLeads(t, edges(2, 1), 1, 2, false)
	checkLeads(t, edges(1, 2, 1, 3), 2, 3, false)
	checkLeads(t, edges(1, 3, 2, 3), 1, 2, false)
	checkLeads(t, edges(1, math.MaxInt), 1, math.MaxInt, true)
}

// P9.1: ways of several edges, along rising numbers and falling ones, and such as they come.
func TestLeadsBySeveralEdges(t *testing.T) {
	for i := range api.MaxLive {
		for j := range api.MaxLive {
			checkLeads(t, chain(api.MaxLive), i+1, j+1, i < j)
			checkLeads(t, ring(api.MaxLive), i+1, j+1, true)
		}
	}
	falling := edges(2, 1, 3, 2, 4, 3, 5, 4)
	checkLeads(t, falling, 5, 1, true)
	checkLeads(t, falling, 1, 5, false)
	mixed := edges(1, 7, 4, 9, 5, 2, 7, 4, 9, 5)
	checkLeads(t, mixed, 1, 2, true)
	checkLeads(t, mixed, 4, 2, true)
	checkLeads(t, mixed, 9, 7, false)
	checkLeads(t, mixed, 2, 1, false)
}

// P9.1: ways go round a ring, and out of it.
func TestLeadsThroughARing(t *testing.T) {
	l := goodEdges()["a way to a ring, and from it"]
	for _, pair := range [][2]int{{1, 2}, {1, 3}, {1, 4}, {2, 3}, {3, 2}, {2, 4}, {3, 4}} {
		checkLeads(t, l, pair[0], pair[1], true)
	}
	for _, pair := range [][2]int{{2, 1}, {3, 1}, {4, 1}, {4, 2}, {4, 3}} {
		checkLeads(t, l, pair[0], pair[1], false)
	}
}

// P9.1: of one edge at least: from a transaction to itself a way leads only if it is on a cycle.
func TestLeadsToItself(t *testing.T) {
	l := goodEdges()["a way to a ring, and from it"]
	checkLeads(t, l, 1, 1, false)
	checkLeads(t, l, 2, 2, true)
	checkLeads(t, l, 3, 3, true)
	checkLeads(t, l, 4, 4, false)
	checkLeads(t, edges(1, 2), 1, 1, false)
	checkLeads(t, edges(1, 2), 2, 2, false)
	checkLeads(t, edges(1, 2, 2, 1), 1, 1, true)
	checkLeads(t, edges(1, 5, 3, 9, 5, 3, 9, 1), 9, 9, true)
}

// P9.1: to one that no edge names, and from one, no way leads; nor from it to itself.
func TestLeadsOfOneThatNoEdgeNames(t *testing.T) {
	for _, l := range goodEdges() {
		for _, no := range append([]int{42, 1 << 33}, noTxns...) {
			checkLeads(t, l, no, no, false)
			for _, txn := range []int{1, 2, 3} {
				checkLeads(t, l, txn, no, false)
				checkLeads(t, l, no, txn, false)
			}
		}
	}
}

// P9.1: numbers that are alike in their lower bits are unlike.
func TestLeadsOfGreatNumbers(t *testing.T) {
	l := goodEdges()["alike in 32 bits"]
	checkLeads(t, l, 1, 2, true)
	checkLeads(t, l, 1, 1, false)
	checkLeads(t, l, 2, 1, false)
	checkLeads(t, l, 2, 1<<32+1, true)
	checkLeads(t, l, 1<<32+1, 1<<32+1, true)
	checkLeads(t, l, 1<<32+2, 1<<32+2, false)
}

// P9.1: of what may not be: false, though a way leads there, and a cycle is there.
func TestLeadsAndCirclesOfWhatMayNotBe(t *testing.T) {
	for _, l := range badEdges() {
		checkCircles(t, l, false)
		for _, e := range l[:min(len(l), 20)] {
			checkLeads(t, l, e.From, e.To, false)
			checkLeads(t, l, e.From, e.From, false)
		}
		checkLeads(t, l, 1, 2, false)
		checkLeads(t, l, 1, 1, false)
		checkLeads(t, l, 2, 1, false)
	}
}

// P9.1: edges with no cycle.
func TestCirclesOfNone(t *testing.T) {
	for _, name := range []string{"none", "empty", "one", "one, from the greater", "a chain", "a chain, falling", "all to one", "all from one", "a chain of as many as may be", "pairs of as many as may be"} {
		checkCircles(t, goodEdges()[name], false)
	}
	checkCircles(t, edges(1, 2, 2, 3), false) // the chapter's
	checkCircles(t, edges(1, 2, 1, 3, 2, 3), false)
	checkCircles(t, edges(1, 2, 1, 3, 2, 4, 3, 4), false) // two ways that meet
}

// P9.1: edges with one cycle, wherever it is, and with several.
func TestCircles(t *testing.T) {
	checkCircles(t, edges(1, 2, 2, 1), true)
	checkCircles(t, edges(1, 2, 2, 3, 3, 2), true)
	checkCircles(t, edges(1, 2, 2, 1, 2, 3), true)
	checkCircles(t, edges(1, 2, 3, 4, 5, 6, 6, 5), true)
	for n := 2; n <= api.MaxLive; n++ {
		checkCircles(t, ring(n), true)
	}
	for _, name := range []string{"the chapter's", "a ring", "two rings apart", "two rings, a way between", "two rings that share one", "a way to a ring, and from it", "all among three", "all among as many as may be", "above all numbers of layer 10", "the least and the greatest", "alike in 32 bits", "in numbers' order, not texts'"} {
		checkCircles(t, goodEdges()[name], true)
	}
}
