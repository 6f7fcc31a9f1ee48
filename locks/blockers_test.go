package locks_test

import (
	"slices"
	"testing"

	"bursary/api"
	"bursary/locks"
	"bursary/mode"
)

// P8.5: of a conversion: all other holders that its mode does not go with, none that it goes with, not itself; and the conversions ahead.
func TestBlockersOfAConversion(t *testing.T) {
	l := one(tab, holds(1, is, 2, ix, 3, is, 4, ix, 5, ix), 4, six, ix, 2, x, ix, 6, s, none)
	checkBlockers(t, l, 4, 2, 5)
	checkBlockers(t, l, 2, 1, 3, 4, 5)
	l = one(k, holds(2, s, 3, s, 9, s), 9, x, s, 2, x, s, 3, x, s)
	checkBlockers(t, l, 9, 2, 3)
	checkBlockers(t, l, 2, 3, 9)
	checkBlockers(t, l, 3, 2, 9)
}

// P8.5: of another waiter: all holders that its mode does not go with, and all who wait ahead, whether its mode goes with theirs or not.
func TestBlockersOfAnotherWaiter(t *testing.T) {
	l := one(tab, holds(1, is, 2, ix, 3, is, 4, ix, 5, ix), 4, six, ix, 2, x, ix, 6, s, none, 9, is, none, 7, x, none, 8, ix, none)
	checkBlockers(t, l, 6, 2, 4, 5)
	checkBlockers(t, l, 9, 2, 4, 6)
	checkBlockers(t, l, 7, 1, 2, 3, 4, 5, 6, 9)
	checkBlockers(t, l, 8, 2, 4, 6, 7, 9)
	l = one(k, holds(5, s), 9, x, none, 1, s, none, 7, s, none)
	checkBlockers(t, l, 9, 5)
	checkBlockers(t, l, 1, 9)
	checkBlockers(t, l, 7, 1, 9)
}

// P8.5: who holds what it does not go with, and waits ahead too, is told once.
func TestBlockersOnce(t *testing.T) {
	l := one(k, holds(1, s, 2, s, 3, s), 3, x, s, 1, x, s, 8, e, none, 4, x, none)
	checkBlockers(t, l, 8, 1, 2, 3)
	checkBlockers(t, l, 4, 1, 2, 3, 8)
}

// P8.5: nothing of one that waits nowhere, though it holds there and others wait; those of other queues are none.
func TestBlockersOfOneThatWaitsNowhere(t *testing.T) {
	l := several()
	for _, txn := range []int{5, 6, 7, 11, api.MaxTxn} {
		checkBlockers(t, l, txn)
		checkBlockers(t, api.Locks{}, txn)
	}
	checkBlockers(t, l, 1, 2, 4)
	checkBlockers(t, l, 2, 1, 3)
	checkBlockers(t, l, 3, 1)
	checkBlockers(t, l, 4, 1, 2, 3)
	checkBlockers(t, one(k, holds(1, x), 2, s, none), 1)
}

// P8.5: of each mode that is wanted behind each mode that is held: the holder, unless both go together; and who waits ahead, always.
func TestBlockersOfAllModes(t *testing.T) {
	for _, r := range []api.Res{tab, k} {
		for _, held := range modesOf(r) {
			for _, wanted := range modesOf(r) {
				var want []int
				if !mode.Goes(held, wanted) {
					want = append(want, 3)
				}
				want = append(want, 5)
				l := one(r, holds(3, held), 5, x, none, 4, wanted, none)
				in := roomy(l)
				if got := locks.Blockers(in, 4); !slices.Equal(got, want) {
					t.Fatalf("%d behind %d: %v, want %v", wanted, held, got, want)
				}
				checkUntouched(t, "Blockers", in, l)
			}
		}
	}
}
