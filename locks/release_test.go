package locks_test

import (
	"slices"
	"testing"

	"bursary/api"
	"bursary/locks"
)

// P8.3: who holds in several queues, in which others wait, hold, and do nothing.
func TestReleaseOfOneThatHolds(t *testing.T) {
	l := all(
		queue(tab, holds(1, ix), wants(2, s, none)),
		queue(key(0, 3), holds(1, x), nil),
		queue(k, holds(1, e, 3, e), wants(4, s, none)),
		queue(key(0, 9), holds(5, x), wants(6, x, none)),
		queue(table(1), holds(1, is, 3, is), nil),
		queue(key(1, 7), holds(1, x), wants(7, s, none, 8, s, none, 9, e, none)))
	checkLocks(t, "Release(1)", leave(t, locks.Release, l, 1, 2, 7, 8), all(
		queue(tab, holds(2, s), nil),
		queue(k, holds(3, e), wants(4, s, none)),
		queue(key(0, 9), holds(5, x), wants(6, x, none)),
		queue(table(1), holds(3, is), nil),
		queue(key(1, 7), holds(7, s, 8, s), wants(9, e, none))))
}

// P8.3: who was granted so, queue by queue, in the order in which they waited there, not in that of their numbers.
func TestReleaseTellsQueueByQueue(t *testing.T) {
	l := all(
		queue(tab, holds(5, x), wants(9, is, none, 2, ix, none, 7, is, none)),
		queue(key(0, 0), holds(4, e, 5, e), wants(4, x, e)),
		queue(table(2), holds(5, x), wants(8, s, none, 1, s, none, 6, x, none)),
		queue(key(2, 0), holds(5, x), wants(3, x, none)))
	checkLocks(t, "Release(5)", leave(t, locks.Release, l, 5, 9, 2, 7, 4, 8, 1, 3), all(
		queue(tab, holds(2, ix, 7, is, 9, is), nil),
		queue(key(0, 0), holds(4, x), nil),
		queue(table(2), holds(1, s, 8, s), wants(6, x, none)),
		queue(key(2, 0), holds(3, x), nil)))
}

// P8.3: who waits, and holds nothing.
func TestReleaseOfOneThatWaits(t *testing.T) {
	l := one(k, holds(1, s), 2, x, none, 3, s, none, 4, e, none)
	checkLocks(t, "the first", leave(t, locks.Release, l, 2, 3), one(k, holds(1, s, 3, s), 4, e, none))
	checkLocks(t, "the second", leave(t, locks.Release, l, 3), one(k, holds(1, s), 2, x, none, 4, e, none))
	checkLocks(t, "the last", leave(t, locks.Release, l, 4), one(k, holds(1, s), 2, x, none, 3, s, none))
}

// P8.3: who holds, and waits, here and elsewhere.
func TestReleaseOfOneThatDoesBoth(t *testing.T) {
	l := all(
		queue(tab, holds(1, is, 2, ix), wants(3, s, none, 4, is, none)),
		queue(k, holds(1, s, 2, s), wants(2, x, s, 5, s, none, 6, e, none)))
	checkLocks(t, "Release(2)", leave(t, locks.Release, l, 2, 3, 4, 5), all(
		queue(tab, holds(1, is, 3, s, 4, is), nil),
		queue(k, holds(1, s, 5, s), wants(6, e, none))))
	checkLocks(t, "Release(1)", leave(t, locks.Release, l, 1, 2), all(
		queue(tab, holds(2, ix), wants(3, s, none, 4, is, none)),
		queue(k, holds(2, x), wants(5, s, none, 6, e, none))))
	l = one(k, holds(2, x))
	checkLocks(t, "alone", leave(t, locks.Release, l, 2), api.Locks{})
}

// P8.3: who does nothing: nothing is gone, nobody is granted.
func TestReleaseOfOneThatDoesNothing(t *testing.T) {
	for name, l := range goodLocks() {
		for _, txn := range []int{100, api.MaxTxn - 2} {
			checkLocks(t, name, leave(t, locks.Release, l, txn), l)
		}
	}
}

// P8.3: as many queues as there may be go with their only holder; of two holders those stay in which the other one holds.
func TestReleaseOfManyQueues(t *testing.T) {
	l := many(api.MaxQueues)
	checkLocks(t, "all", leave(t, locks.Release, l, 1), api.Locks{})
	var want api.Locks
	for i := range l.Queues {
		if i%3 == 0 {
			l.Queues[i].Holders = holds(1, s, 2, s)
			want.Queues = append(want.Queues, queue(l.Queues[i].Res, holds(2, s), nil))
		}
	}
	checkLocks(t, "some", leave(t, locks.Release, l, 1), want)
}

// P8.3: pumping stops at the first waiter that does not go, though one behind it would.
func TestPumpingStops(t *testing.T) {
	l := one(k, holds(1, x), 2, s, none, 3, e, none, 4, s, none)
	checkLocks(t, "at another one", leave(t, locks.Release, l, 1, 2), one(k, holds(2, s), 3, e, none, 4, s, none))
	l = one(tab, holds(1, ix, 2, is, 3, is), 2, s, is, 3, six, is, 4, is, none)
	checkLocks(t, "at a conversion", leave(t, locks.Release, l, 1, 2), one(tab, holds(2, s, 3, is), 3, six, is, 4, is, none))
	l = one(tab, holds(1, x), 2, is, none, 3, s, none, 4, ix, none, 5, is, none)
	checkLocks(t, "at what was granted ahead", leave(t, locks.Release, l, 1, 2, 3), one(tab, holds(2, is, 3, s), 4, ix, none, 5, is, none))
	l = one(k, holds(1, s, 2, s), 3, x, none, 4, s, none)
	checkLocks(t, "at the first", leave(t, locks.Release, l, 1), one(k, holds(2, s), 3, x, none, 4, s, none))
}

// P8.3: all go that go, in their places among the holders.
func TestPumpingGoesOn(t *testing.T) {
	l := one(k, holds(5, x), 9, s, none, 4, s, none, 6, s, none, 1, s, none)
	checkLocks(t, "all", leave(t, locks.Release, l, 5, 9, 4, 6, 1), one(k, holds(1, s, 4, s, 6, s, 9, s)))
	l = one(tab, holds(1, is, 3, is, 4, s), 3, six, is, 1, x, is, 5, is, none)
	checkLocks(t, "a conversion holds in the place of what it held", leave(t, locks.Release, l, 4, 3), one(tab, holds(1, is, 3, six), 1, x, is, 5, is, none))
	l = leave(t, locks.Release, one(tab, holds(1, is, 3, six), 1, x, is, 5, is, none), 3, 1)
	checkLocks(t, "the next one", l, one(tab, holds(1, x), 5, is, none))
}

// P8.3: a first conversion whose own mode is all that its own does not go with is granted.
func TestPumpingOfTheOnlyHolder(t *testing.T) {
	l := one(k, holds(1, s, 2, s), 2, x, s)
	checkLocks(t, "a key", leave(t, locks.Release, l, 1, 2), one(k, holds(2, x)))
	l = one(tab, holds(1, ix, 2, ix), 1, six, ix)
	checkLocks(t, "a table", leave(t, locks.Release, l, 2, 1), one(tab, holds(1, six)))
}

// P8.3: Leave takes the waiting away, and no lock; who waited behind may go so.
func TestLeave(t *testing.T) {
	l := all(
		queue(tab, holds(1, is, 2, is, 3, is), nil),
		queue(k, holds(1, s, 3, s), wants(3, x, s, 2, s, none, 4, s, none, 5, x, none)))
	checkLocks(t, "a conversion", leave(t, locks.Leave, l, 3, 2, 4), all(
		queue(tab, holds(1, is, 2, is, 3, is), nil),
		queue(k, holds(1, s, 2, s, 3, s, 4, s), wants(5, x, none))))
	checkLocks(t, "one in the middle", leave(t, locks.Leave, l, 2), all(
		queue(tab, holds(1, is, 2, is, 3, is), nil),
		queue(k, holds(1, s, 3, s), wants(3, x, s, 4, s, none, 5, x, none))))
	checkLocks(t, "the last one", leave(t, locks.Leave, l, 5), all(
		queue(tab, holds(1, is, 2, is, 3, is), nil),
		queue(k, holds(1, s, 3, s), wants(3, x, s, 2, s, none, 4, s, none))))
}

// P8.3: who leaves keeps all that it holds, here and elsewhere.
func TestLeaveKeepsWhatIsHeld(t *testing.T) {
	l := all(
		queue(tab, holds(7, ix), wants(1, s, none)),
		queue(k, holds(7, e, 8, e), wants(7, x, e)))
	checkLocks(t, "Leave(7)", leave(t, locks.Leave, l, 7), all(
		queue(tab, holds(7, ix), wants(1, s, none)),
		queue(k, holds(7, e, 8, e), nil)))
	checkLocks(t, "Leave(1)", leave(t, locks.Leave, l, 1), all(
		queue(tab, holds(7, ix), nil),
		queue(k, holds(7, e, 8, e), wants(7, x, e))))
}

// P8.3: ErrNone of one that waits nowhere, whether it holds something or not.
func TestLeaveOfOneThatWaitsNowhere(t *testing.T) {
	l := goodLocks()["many adders"]
	for _, txn := range []int{3, 4, 7, 11, api.MaxTxn} {
		noLeave(t, locks.Leave, l, txn, api.ErrNone)
	}
	noLeave(t, locks.Leave, api.Locks{}, 1, api.ErrNone)
	l = leave(t, locks.Leave, l, 2)
	noLeave(t, locks.Leave, l, 2, api.ErrNone)
}

// P8.3: ErrLocks ahead of all else, then ErrArg.
func TestReleaseAndLeaveOfWhatMayNotBe(t *testing.T) {
	for _, call := range []leaver{locks.Release, locks.Leave} {
		for _, l := range badLocks() {
			for _, txn := range []int{-1, 0, 1, 2, 3, 11, api.MaxTxn, api.MaxTxn + 1} {
				noLeave(t, call, l, txn, api.ErrLocks)
			}
		}
		for _, l := range []api.Locks{{}, goodLocks()["in several queues"]} {
			for _, txn := range noTxns {
				noLeave(t, call, l, txn, api.ErrArg)
			}
		}
	}
}

// R3: what Release and Leave answer is new memory, and no two lists of it share any.
func TestReleaseAndLeaveAnswerNewMemory(t *testing.T) {
	for name, l := range goodLocks() {
		for _, call := range []leaver{locks.Release, locks.Leave} {
			for txn := range 9 {
				in := roomy(l)
				out, got, err := call(in, txn+1)
				if err != api.OK {
					continue
				}
				was := slices.Clone(got)
				checkNew(t, name, out, in)
				if !slices.Equal(got, was) {
					t.Fatalf("%s: who was granted has changed with the locks", name)
				}
				checkUntouched(t, name, in, l)
			}
		}
	}
}
