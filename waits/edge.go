package waits

import (
	"cmp"
	"slices"

	"bursary/api"
)

// isEdge says whether it is an edge: of two transactions that are unlike.
func isEdge(e api.Edge) bool {
	return e.From > 0 && e.To > 0 && e.From != e.To
}

// compare is the order of edges: below 0, if a stands ahead of b.
func compare(a, b api.Edge) int {
	return cmp.Or(cmp.Compare(a.From, b.From), cmp.Compare(a.To, b.To))
}

// place is where an edge stands, or would stand, and whether it is there.
func place(l []api.Edge, e api.Edge) (int, bool) {
	return slices.BinarySearchFunc(l, e, compare)
}

// without is a copy of the edges without those from a transaction and to it.
func without(l []api.Edge, txn int) []api.Edge {
	return slices.DeleteFunc(slices.Clone(l), func(e api.Edge) bool { return e.From == txn || e.To == txn })
}

// crowd is transactions that were met.
type crowd map[int]struct{}

// meet puts some among those that were met.
func (c crowd) meet(txns ...int) {
	for _, txn := range txns {
		c[txn] = struct{}{}
	}
}

// met says whether a transaction was met.
func (c crowd) met(txn int) bool {
	_, was := c[txn]
	return was
}
