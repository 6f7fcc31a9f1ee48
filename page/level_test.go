package page_test

import (
	"math"
	"slices"
	"testing"

	"bursary/api"
)

// P11.4: leaves of each two unlike sizes; whatever the step, for rows have keys of their own.
func TestLevelOfLeaves(t *testing.T) {
	all := ids(2, 4, 6, 8, 10, 12, 14, 16).Rows
	for n := range 5 {
		for m := range 5 {
			to := n - 1
			if n < m {
				to = n + 1
			}
			for _, k := range slices.Concat(someKeys, oddKeys, keysOf(5)) {
				got := level(t, leaf(all[:n]...), leaf(all[n:n+m]...), k)
				if n == m || to == n+m {
					refused(t, "one size, or nothing left", got, api.ErrArg)
					continue
				}
				check(t, "Level", got, answer{a: leaf(all[:to]...), b: leaf(all[to : n+m]...), key: all[to].Key})
			}
		}
	}
}

// P11.4: what b would have nothing left of: where it has one row, and a has none. That a has nothing then may be.
func TestLevelThatLeavesNothing(t *testing.T) {
	refused(t, "b has one", level(t, leaf(), ids(5), key(0, 5)), api.ErrArg)
	check(t, "a has one", level(t, ids(5), leaf(), key(0, 9)), answer{a: leaf(), b: ids(5), key: key(0, 5)})
	check(t, "b has two", level(t, leaf(), ids(5, 6), key(0, 5)), answer{a: ids(5), b: ids(6), key: key(0, 6)})
}

// P11.4: a is the smaller inner page: b's first kid goes to its end, with the step.
func TestLevelToTheLowerInnerPage(t *testing.T) {
	check(t, "two and three", level(t, kids(3, 5), kids(9, 12, 14), key(0, 7)), answer{a: inner(on(0, 0, 3), on(0, 5, 4), on(0, 7, 9)), b: inner(on(0, 0, 10), on(0, 14, 11)), key: key(0, 12)})
	check(t, "two and four", level(t, kids(3, 5), kids(9, 12, 14, 16), key(0, 6)), answer{a: inner(on(0, 0, 3), on(0, 5, 4), on(0, 6, 9)), b: inner(on(0, 0, 10), on(0, 14, 11), on(0, 16, 12)), key: key(0, 12)})
	check(t, "three and four", level(t, kids(3, 5, 6), kids(9, 12, 14, 16), key(0, 11)), answer{a: inner(on(0, 0, 3), on(0, 5, 4), on(0, 6, 5), on(0, 11, 9)), b: inner(on(0, 0, 10), on(0, 14, 11), on(0, 16, 12)), key: key(0, 12)})
}

// P11.4: b is the smaller one: a's last kid goes ahead of all of it, whose first one gets the old step.
func TestLevelToTheUpperInnerPage(t *testing.T) {
	check(t, "three and two", level(t, kids(3, 5, 6), kids(9, 12), key(0, 8)), answer{a: kids(3, 5), b: inner(on(0, 0, 5), on(0, 8, 9), on(0, 12, 10)), key: key(0, 6)})
	check(t, "four and two", level(t, kids(3, 5, 6, 7), kids(9, 12), key(0, 8)), answer{a: kids(3, 5, 6), b: inner(on(0, 0, 6), on(0, 8, 9), on(0, 12, 10)), key: key(0, 7)})
	check(t, "four and three", level(t, kids(3, 5, 6, 7), kids(9, 12, 13), key(0, 11)), answer{a: kids(3, 5, 6), b: inner(on(0, 0, 6), on(0, 11, 9), on(0, 12, 10), on(0, 13, 11)), key: key(0, 7)})
}

// P11.4: of one size, whatever else.
func TestLevelOfOneSize(t *testing.T) {
	for _, k := range []api.Key{key(0, 0), key(0, 8), key(0, 9), key(3, 0)} {
		refused(t, "no rows", level(t, leaf(), leaf(), k), api.ErrArg)
		refused(t, "one row", level(t, ids(1), ids(2), k), api.ErrArg)
		refused(t, "four rows", level(t, ids(1, 2, 3, 4), ids(5, 6, 7, 8), k), api.ErrArg)
		refused(t, "two kids", level(t, kids(3, 5), kids(9, 12), k), api.ErrArg)
		refused(t, "four kids", level(t, kids(3, 5, 6, 7), kids(9, 12, 13, 14), k), api.ErrArg)
	}
}

// P11.4: what would not rise, wherever: where both meet, or at a step far from what goes over.
func TestLevelOfWhatDoesNotRise(t *testing.T) {
	refused(t, "rows turned round", level(t, ids(5, 6, 7), ids(1), key(0, 5)), api.ErrArg)
	refused(t, "rows turned round", level(t, ids(5), ids(1, 2, 3), key(0, 5)), api.ErrArg)
	refused(t, "a row twice", level(t, ids(1, 2, 5), ids(5), key(0, 5)), api.ErrArg)
	refused(t, "a row twice", level(t, ids(5), ids(5, 6, 7), key(0, 5)), api.ErrArg)
	refused(t, "rows that mingle", level(t, ids(1, 4), ids(3, 6, 7), key(0, 3)), api.ErrArg)
	refused(t, "rows that mingle behind", level(t, ids(1, 2, 5), ids(4, 7), key(0, 5)), api.ErrArg)
	for _, k := range []api.Key{key(0, 0), key(0, 5), key(0, 6), key(0, 12), key(0, 13), key(1, 7), key(2, 65535), key(-1, 7), key(3, 7), key(256, 7), key(math.MaxInt, 7), key(math.MinInt, 7)} {
		refused(t, "to the lower one", level(t, kids(3, 6), kids(9, 12, 14), k), api.ErrArg)
		refused(t, "to the upper one", level(t, kids(3, 5, 6), kids(9, 12), k), api.ErrArg)
	}
}

// P11.4: a page twice, wherever it stands: of what goes over, and of what stays.
func TestLevelOfAPageTwice(t *testing.T) {
	lower, upper := kids(3, 5), kids(9, 12, 14)
	for i := range lower.Kids {
		for j := range upper.Kids {
			b := cloned(upper)
			b.Kids[j].Page = lower.Kids[i].Page
			refused(t, "to the lower one", level(t, lower, b, key(0, 7)), api.ErrArg)
		}
	}
	lower, upper = kids(3, 5, 6), kids(9, 12)
	for i := range lower.Kids {
		for j := range upper.Kids {
			b := cloned(upper)
			b.Kids[j].Page = lower.Kids[i].Page
			refused(t, "to the upper one", level(t, lower, b, key(0, 7)), api.ErrArg)
		}
	}
}
