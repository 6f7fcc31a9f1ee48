package locks_test

import (
	"slices"
	"testing"

	"bursary/api"
	"bursary/locks"
)

// several are locks in which 1 to 4 hold and wait, and 5 and 6 hold alone.
func several() api.Locks {
	return all(
		queue(tab, holds(1, is, 2, ix, 3, is), wants(4, x, none)),
		queue(key(0, 0), holds(5, e), nil),
		queue(k, holds(1, s, 3, s), wants(3, x, s, 2, e, none)),
		queue(table(1), holds(2, ix, 4, ix), wants(1, s, none)),
		queue(key(1, 7), holds(2, e, 4, e, 5, e), nil),
		queue(table(2), holds(6, six), nil),
		queue(key(2, 65535), holds(2, x), nil))
}

// P8.4: the mode that each holds of each, be it little; that which it wants is not it.
func TestMode(t *testing.T) {
	l := several()
	for _, q := range l.Queues {
		for txn := range 9 {
			want := none
			for _, h := range q.Holders {
				if h.Txn == txn {
					want = h.Mode
				}
			}
			checkMode(t, l, txn, q.Res, want)
		}
	}
	checkMode(t, l, 3, k, s)
	checkMode(t, l, 2, k, none)
	checkMode(t, l, 6, table(2), six)
}

// P8.4: ModeNone of what has no queue, and of what is nothing that is locked, though it is near to what is.
func TestModeOfOthers(t *testing.T) {
	l := several()
	for txn := range 9 {
		for _, r := range append(noRes(), key(0, 1), key(0, 6), key(0, 8), key(1, 0), key(2, 7), key(2, 0), key(1, 65535)) {
			checkMode(t, l, txn, r, none)
			checkMode(t, api.Locks{}, txn, r, none)
		}
	}
	checkMode(t, one(tab, holds(1, x)), 1, key(0, 0), none)
	checkMode(t, one(key(0, 0), holds(1, x)), 1, tab, none)
	checkMode(t, one(tab, holds(1, x)), 1, api.Res{Id: 1}, none)
	checkMode(t, one(key(1, 7), holds(1, x)), 1, api.Res{Table: 1, Id: 7}, none)
}

// P8.4: all that each holds, in order.
func TestHolds(t *testing.T) {
	l := several()
	checkHolds(t, l, 1, api.Lock{Res: tab, Mode: is}, api.Lock{Res: k, Mode: s})
	checkHolds(t, l, 2, api.Lock{Res: tab, Mode: ix}, api.Lock{Res: table(1), Mode: ix}, api.Lock{Res: key(1, 7), Mode: e}, api.Lock{Res: key(2, 65535), Mode: x})
	checkHolds(t, l, 3, api.Lock{Res: tab, Mode: is}, api.Lock{Res: k, Mode: s})
	checkHolds(t, l, 4, api.Lock{Res: table(1), Mode: ix}, api.Lock{Res: key(1, 7), Mode: e})
	checkHolds(t, l, 5, api.Lock{Res: key(0, 0), Mode: e}, api.Lock{Res: key(1, 7), Mode: e})
	checkHolds(t, l, 6, api.Lock{Res: table(2), Mode: six})
	checkHolds(t, l, 7)
	checkHolds(t, one(k, holds(1, s), 2, x, none), 2)
	checkHolds(t, api.Locks{}, 1)
}

// P8.4: all of as many queues as there may be.
func TestHoldsOfMany(t *testing.T) {
	l := many(api.MaxQueues)
	var want []api.Lock
	for _, q := range l.Queues {
		want = append(want, api.Lock{Res: q.Res, Mode: s})
	}
	checkHolds(t, l, 1, want...)
	checkHolds(t, l, 2)
}

// P8.4: for what each waits, and the mode that it wants, not that which it holds there.
func TestWaits(t *testing.T) {
	l := several()
	checkWaits(t, l, 1, table(1), s, true)
	checkWaits(t, l, 2, k, e, true)
	checkWaits(t, l, 3, k, x, true)
	checkWaits(t, l, 4, tab, x, true)
	for _, txn := range []int{5, 6, 7, 11, api.MaxTxn} {
		checkWaits(t, l, txn, api.Res{}, 0, false)
		checkWaits(t, api.Locks{}, txn, api.Res{}, 0, false)
	}
	l = one(k, holds(1, s), 2, x, none, 3, s, none, 4, e, none)
	checkWaits(t, l, 2, k, x, true)
	checkWaits(t, l, 3, k, s, true)
	checkWaits(t, l, 4, k, e, true)
	checkWaits(t, l, 1, api.Res{}, 0, false)
}

// P8.4, P8.5: of what is no transaction nothing is told.
func TestToldOfNoTransaction(t *testing.T) {
	for _, l := range []api.Locks{{}, several()} {
		for _, txn := range noTxns {
			checkMode(t, l, txn, k, none)
			checkHolds(t, l, txn)
			checkWaits(t, l, txn, api.Res{}, 0, false)
			checkBlockers(t, l, txn)
		}
	}
}

// P8.4, P8.5: of what may not be nothing is told, though somebody holds there, and waits.
func TestToldOfWhatMayNotBe(t *testing.T) {
	for name, l := range badLocks() {
		for _, txn := range []int{-1, 0, 1, 2, 3, 5, 6, 11, api.MaxTxn + 1} {
			checkHolds(t, l, txn)
			checkWaits(t, l, txn, api.Res{}, 0, false)
			checkBlockers(t, l, txn)
			for _, r := range []api.Res{tab, k, key(0, 8), table(3), {Id: 1}} {
				checkMode(t, l, txn, r, none)
			}
			for _, q := range l.Queues[:min(len(l.Queues), 3)] {
				checkMode(t, l, txn, q.Res, none)
			}
		}
		if locks.Check(l) == api.OK {
			t.Fatalf("%s may be", name)
		}
	}
}

// R3, R5: what is told is new memory, and hangs on the arguments alone.
func TestToldIsNewMemory(t *testing.T) {
	l := several()
	for txn := range 8 {
		held, blockers := locks.Holds(l, txn), locks.Blockers(l, txn)
		wantHeld, wantBlockers := slices.Clone(held), slices.Clone(blockers)
		for i := range held {
			held[i] = api.Lock{Res: key(99, 99), Mode: 99}
		}
		for i := range blockers {
			blockers[i] = 99
		}
		if !same(l, several()) {
			t.Fatalf("%v has changed with what was told", l)
		}
		checkHolds(t, l, txn, wantHeld...)
		checkBlockers(t, l, txn, wantBlockers...)
	}
}
