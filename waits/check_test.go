package waits_test

import (
	"math"
	"testing"

	"bursary/api"
)

// The chapter's numbers.
func TestNumbers(t *testing.T) {
	if api.MaxLive != 8 || api.ErrEdges != 190 || api.ErrArg != 2 || api.OK != 0 {
		t.Fatal("the numbers are not the chapter's")
	}
}

// P9.1: edges that may be.
func TestCheck(t *testing.T) {
	for name, l := range goodEdges() {
		checkCheck(t, name, l, api.OK)
	}
}

// P9.1: edges that may not be, for one sentence of the words each.
func TestCheckOfWhatMayNotBe(t *testing.T) {
	for name, l := range badEdges() {
		checkCheck(t, name, l, api.ErrEdges)
	}
}

// P9.1: edges that may not be, for several sentences at once.
func TestCheckOfWhatMayNotBeAtAll(t *testing.T) {
	checkCheck(t, "a zero edge", edges(0, 0), api.ErrEdges)
	checkCheck(t, "a zero edge behind", edges(1, 2, 0, 0), api.ErrEdges)
	checkCheck(t, "twice, another one between", edges(1, 2, 1, 3, 1, 2), api.ErrEdges)
	checkCheck(t, "twice, others between", edges(1, 2, 2, 1, 2, 3, 1, 2), api.ErrEdges)
	checkCheck(t, "falling, one too many", edges(9, 8, 8, 7, 7, 6, 6, 5, 5, 4, 4, 3, 3, 2, 2, 1), api.ErrEdges)
}

// P9.1: transactions are numbers above 0, the greatest one too, and both of an edge are so.
func TestCheckOfNumbers(t *testing.T) {
	for _, txn := range []int{1, 3, 8, 9, 500, math.MaxInt32, api.MaxTxn, api.MaxTxn + 1, 1 << 32, 1<<32 + 2, math.MaxInt} {
		checkCheck(t, "who waits", edges(txn, 2), api.OK)
		checkCheck(t, "for whom", edges(2, txn), api.OK)
		checkCheck(t, "for itself", edges(txn, txn), api.ErrEdges)
	}
	for _, no := range noTxns {
		checkCheck(t, "who waits", edges(no, 2), api.ErrEdges)
		checkCheck(t, "for whom", edges(2, no), api.ErrEdges)
		checkCheck(t, "both", edges(no, no+1), api.ErrEdges)
	}
}

// P9.1: each two edges among three transactions, in both orders: by From, then by To, none twice.
func TestCheckOfTheOrder(t *testing.T) {
	rising := edges(1, 2, 1, 9, 1, 10, 2, 1, 2, 9, 2, 10, 9, 1, 9, 2, 9, 10, 10, 1, 10, 2, 10, 9)
	checkCheck(t, "all of them", rising, api.OK)
	for i, a := range rising {
		for j, b := range rising {
			want := api.ErrEdges
			if i < j {
				want = api.OK
			}
			checkCheck(t, "two edges", []api.Edge{a, b}, want)
		}
	}
}

// P9.1: as many transactions as there may be, and one more, whichever of them wait, and for whom.
func TestCheckOfManyTransactions(t *testing.T) {
	for n := 2; n <= api.MaxLive+3; n++ {
		want := api.OK
		if n > api.MaxLive {
			want = api.ErrEdges
		}
		checkCheck(t, "a chain", chain(n), want)
		checkCheck(t, "a ring", ring(n), want)
		checkCheck(t, "all", complete(upTo(n)...), want)
		var to, from []api.Edge
		for i := range n - 1 {
			to = append(to, api.Edge{From: i + 1, To: n})
			from = append(from, api.Edge{From: n, To: i + 1})
		}
		checkCheck(t, "all to one", to, want)
		checkCheck(t, "all from one", from, want)
	}
}

// R1: Check of very many edges ends, whatever is wrong with them.
func TestCheckOfVeryManyEdges(t *testing.T) {
	many := chain(1 << 20)
	checkCheck(t, "of many transactions", many, api.ErrEdges)
	for i := range many {
		many[i] = api.Edge{From: 1, To: 2}
	}
	checkCheck(t, "all the same", many, api.ErrEdges)
}
