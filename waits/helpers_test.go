package waits_test

import (
	"fmt"
	"math"
	"slices"
	"testing"

	"bursary/api"
	"bursary/waits"
)

// edges is edges: who waits and for whom, one behind the other.
func edges(pairs ...int) []api.Edge {
	var out []api.Edge
	for p := range slices.Chunk(pairs, 2) {
		out = append(out, api.Edge{From: p[0], To: p[1]})
	}
	return out
}

// complete is all edges among these transactions, which rise.
func complete(txns ...int) []api.Edge {
	var out []api.Edge
	for _, from := range txns {
		for _, to := range txns {
			if from != to {
				out = append(out, api.Edge{From: from, To: to})
			}
		}
	}
	return out
}

// chain is edges from each of the transactions 1 to n to the next one.
func chain(n int) []api.Edge {
	var out []api.Edge
	for i := range n - 1 {
		out = append(out, api.Edge{From: i + 1, To: i + 2})
	}
	return out
}

// ring is edges from each of the transactions 1 to n to the next one, and from the last one to the first.
func ring(n int) []api.Edge {
	return append(chain(n), api.Edge{From: n, To: 1})
}

// upTo is the numbers from 1 to n.
func upTo(n int) []int {
	var out []int
	for i := range n {
		out = append(out, i+1)
	}
	return out
}

// noTxns are numbers that are no transaction's; cut to 32 bits some would be one.
var noTxns = []int{0, -1, -2, -7, -math.MaxInt32, math.MinInt32, -1<<32 + 1, -1 << 32, math.MinInt, -math.MaxInt}

// goodEdges are some that may be, of many shapes.
func goodEdges() map[string][]api.Edge {
	return map[string][]api.Edge{
		"none":                          nil,
		"empty":                         {},
		"one":                           edges(1, 2),
		"one, from the greater":         edges(2, 1),
		"the chapter's":                 edges(1, 2, 2, 1, 2, 3, 3, 2),
		"a chain":                       edges(1, 2, 2, 3, 3, 4),
		"a chain, falling":              edges(2, 1, 3, 2, 4, 3),
		"a ring":                        edges(1, 5, 3, 9, 5, 3, 9, 1),
		"two rings apart":               edges(1, 2, 2, 1, 5, 6, 6, 5),
		"two rings, a way between":      edges(1, 2, 2, 1, 2, 3, 3, 4, 4, 3),
		"two rings that share one":      edges(1, 2, 2, 3, 3, 1, 3, 4, 4, 3),
		"a way to a ring, and from it":  edges(1, 2, 2, 3, 3, 2, 3, 4),
		"all to one":                    edges(1, 4, 2, 4, 3, 4, 5, 4, 8, 4),
		"all from one":                  edges(4, 1, 4, 2, 4, 3, 4, 5, 4, 8),
		"all among three":               complete(1, 2, 3),
		"all among as many as may be":   complete(upTo(api.MaxLive)...),
		"a chain of as many as may be":  chain(api.MaxLive),
		"a ring of as many as may be":   ring(api.MaxLive),
		"pairs of as many as may be":    edges(1, 2, 3, 4, 5, 6, 7, 8),
		"above all numbers of layer 10": edges(api.MaxTxn, api.MaxTxn+1, api.MaxTxn+1, api.MaxTxn),
		"the least and the greatest":    edges(1, math.MaxInt, math.MaxInt, 1),
		"alike in 32 bits":              edges(1, 1<<32+1, 2, 1<<32+1, 1<<32+1, 2),
		"in numbers' order, not texts'": edges(9, 10, 10, 9, 10, 100, 100, 10),
	}
}

// badEdges are some that may not be, each for one sentence of the chapter's words alone.
func badEdges() map[string][]api.Edge {
	out := map[string][]api.Edge{
		"a transaction that waits for itself":      edges(1, 1),
		"one that does so ahead":                   edges(1, 1, 1, 2),
		"one that does so in between":              edges(1, 2, 2, 2, 2, 3),
		"one that does so behind":                  edges(1, 2, 2, 1, 3, 3),
		"the greatest that does so":                edges(1, 2, math.MaxInt, math.MaxInt),
		"out of order by From":                     edges(2, 1, 1, 2),
		"out of order by From, To rises":           edges(2, 3, 1, 4),
		"out of order by From at the end":          edges(1, 2, 3, 1, 2, 3),
		"out of order by From in 64 bits":          edges(1<<32+1, 2, 3, 2),
		"out of order by To":                       edges(1, 3, 1, 2),
		"out of order by To at the end":            edges(1, 2, 2, 3, 2, 1),
		"out of order by To at the beginning":      edges(1, 4, 1, 3, 2, 1),
		"out of order by To in 64 bits":            edges(1, 1<<32+2, 1, 3),
		"in the order of texts":                    edges(1, 10, 1, 9),
		"an edge twice":                            edges(1, 2, 1, 2),
		"an edge twice at the end":                 edges(1, 2, 2, 1, 2, 1),
		"an edge three times":                      edges(2, 1, 2, 1, 2, 1),
		"a chain of one more than may be":          chain(api.MaxLive + 1),
		"a ring of one more than may be":           ring(api.MaxLive + 1),
		"all among one more than may be":           complete(upTo(api.MaxLive + 1)...),
		"all to one of one more than may be":       edges(1, 9, 2, 9, 3, 9, 4, 9, 5, 9, 6, 9, 7, 9, 8, 9),
		"all from one of one more than may be":     edges(5, 1, 5, 2, 5, 3, 5, 4, 5, 6, 5, 7, 5, 8, 5, 9),
		"pairs of more than may be":                edges(1, 2, 3, 4, 5, 6, 7, 8, 9, 10),
		"one more than may be, in the last To":     append(complete(upTo(api.MaxLive)...), api.Edge{From: api.MaxLive, To: api.MaxLive + 1}),
		"one more than may be, in the last From":   append(complete(upTo(api.MaxLive)...), api.Edge{From: api.MaxLive + 1, To: 1}),
		"one more than may be, in the first From":  append(edges(1, 2), complete(2, 3, 4, 5, 6, 7, 8, 9)...),
		"one more than may be, alike in 32 bits":   edges(1, 2, 3, 4, 5, 6, 7, 8, 8, 1<<32+1),
		"many more than may be":                    chain(1000),
		"a transaction 0 that waits":               edges(0, 1),
		"a transaction 0 for which somebody waits": edges(1, 0),
	}
	for _, no := range noTxns {
		out[fmt.Sprint(no, " that waits, alone")] = edges(no, 7)
		out[fmt.Sprint(no, " that waits, ahead")] = edges(no, 7, 1, 2, 2, 1)
		out[fmt.Sprint(no, " for which one waits, alone")] = edges(7, no)
		out[fmt.Sprint(no, " for which one waits, between")] = edges(1, 2, 2, no, 2, 1)
		out[fmt.Sprint(no, " for which one waits, behind")] = edges(1, 2, 2, 1, 3, no)
	}
	return out
}

// margin is how many edges stand in the room behind the end of a roomy list.
const margin = 3

// mark stands in that room.
var mark = api.Edge{From: 77, To: 78}

// roomy is a copy of the edges with room behind its end, which holds marks.
func roomy(l []api.Edge) []api.Edge {
	return slices.Concat(l, slices.Repeat([]api.Edge{mark}, margin))[:len(l)]
}

// checkUntouched asks whether roomy edges, and the room behind their end, are as they were made.
func checkUntouched(t *testing.T, name string, in, want []api.Edge) {
	t.Helper()
	if !slices.Equal(in, want) {
		t.Fatalf("%s: %v is left of %v", name, in, want)
	}
	if room := in[len(in):][:margin]; !slices.Equal(room, slices.Repeat([]api.Edge{mark}, margin)) {
		t.Fatalf("%s: %v stands in the room behind %v", name, room, want)
	}
}

// expect holds an error against the one that is wanted.
func expect(t *testing.T, name string, got, want api.Errno) {
	t.Helper()
	if got != want {
		t.Fatalf("%s: error %d, want %d", name, got, want)
	}
}

// checkCheck holds Check of edges against the error that is wanted.
func checkCheck(t *testing.T, name string, l []api.Edge, want api.Errno) {
	t.Helper()
	in := roomy(l)
	expect(t, fmt.Sprintf("%s: Check(%v)", name, l), waits.Check(in), want)
	checkUntouched(t, name, in, l)
}

// checkLeads holds Leads against what is wanted.
func checkLeads(t *testing.T, l []api.Edge, from, to int, want bool) {
	t.Helper()
	in := roomy(l)
	if got := waits.Leads(in, from, to); got != want {
		t.Fatalf("%v: Leads(%d, %d): %t", l, from, to, got)
	}
	checkUntouched(t, "Leads", in, l)
}

// checkCircles holds Circles against what is wanted.
func checkCircles(t *testing.T, l []api.Edge, want bool) {
	t.Helper()
	in := roomy(l)
	if got := waits.Circles(in); got != want {
		t.Fatalf("Circles(%v): %t", l, got)
	}
	checkUntouched(t, "Circles", in, l)
}

// checkBound holds Bound against those that are wanted, and Victim against the last one of them.
func checkBound(t *testing.T, l []api.Edge, txn int, want ...int) {
	t.Helper()
	in := roomy(l)
	got, err := waits.Bound(in, txn)
	if err != api.OK || !slices.Equal(got, want) {
		t.Fatalf("%v: Bound(%d): %v, error %d, want %v", l, txn, got, err, want)
	}
	youngest := 0
	if len(want) > 0 {
		youngest = want[len(want)-1]
	}
	victim, err := waits.Victim(in, txn)
	if err != api.OK || victim != youngest {
		t.Fatalf("%v: Victim(%d): %d, error %d, want %d", l, txn, victim, err, youngest)
	}
	checkUntouched(t, "Bound and Victim", in, l)
}

// checkBreak holds Break against the victims and the edges that are wanted.
func checkBreak(t *testing.T, l []api.Edge, txn int, want []int, left []api.Edge) {
	t.Helper()
	in := roomy(l)
	gone, got, err := waits.Break(in, txn)
	if err != api.OK || !slices.Equal(gone, want) || !slices.Equal(got, left) {
		t.Fatalf("%v: Break(%d): %v, %v, error %d, want %v, %v", l, txn, gone, got, err, want, left)
	}
	checkUntouched(t, "Break", in, l)
}

// checkCycles holds Cycles against those that are wanted.
func checkCycles(t *testing.T, l []api.Edge, txn int, want ...[]int) {
	t.Helper()
	in := roomy(l)
	got, err := waits.Cycles(in, txn)
	if err != api.OK || !slices.EqualFunc(got, want, slices.Equal) {
		t.Fatalf("%v: Cycles(%d): %v, error %d, want %v", l, txn, got, err, want)
	}
	checkUntouched(t, "Cycles", in, l)
}

// checkAdd holds the edges behind an Add against those that are wanted.
func checkAdd(t *testing.T, l, more, want []api.Edge) {
	t.Helper()
	in, inMore := roomy(l), roomy(more)
	got, err := waits.Add(in, inMore...)
	if err != api.OK || !slices.Equal(got, want) {
		t.Fatalf("Add(%v, %v): %v, error %d, want %v", l, more, got, err, want)
	}
	checkUntouched(t, "Add", in, l)
	checkUntouched(t, "Add: what comes", inMore, more)
}

// refuseAdd asks Add for an error, and nothing beside it.
func refuseAdd(t *testing.T, l, more []api.Edge, want api.Errno) {
	t.Helper()
	in, inMore := roomy(l), roomy(more)
	got, err := waits.Add(in, inMore...)
	if err != want || len(got) != 0 {
		t.Fatalf("Add(%v, %v): %v, error %d, want error %d", l, more, got, err, want)
	}
	checkUntouched(t, "Add", in, l)
	checkUntouched(t, "Add: what comes", inMore, more)
}

// checkWithout holds the edges behind a Without against those that are wanted.
func checkWithout(t *testing.T, l []api.Edge, txn int, want []api.Edge) {
	t.Helper()
	in := roomy(l)
	got, err := waits.Without(in, txn)
	if err != api.OK || !slices.Equal(got, want) {
		t.Fatalf("%v: Without(%d): %v, error %d, want %v", l, txn, got, err, want)
	}
	checkUntouched(t, "Without", in, l)
}
