package locks_test

import (
	"slices"
	"testing"

	"bursary/api"
	"bursary/locks"
	"bursary/mode"
)

// The chapter's numbers, and those that it takes from other layers.
func TestNumbers(t *testing.T) {
	got := []int{api.MaxQueues, api.LockHad, api.LockGranted, api.LockWaits, int(api.ErrLocks), int(api.ErrBusy), api.MaxTxn, api.MaxTables}
	if want := []int{500, 1, 2, 3, 180, 181, 1 << 30, 3}; !slices.Equal(got, want) {
		t.Fatalf("the numbers are %v, want %v", got, want)
	}
}

// P8.1: locks that may be.
func TestCheck(t *testing.T) {
	for name, l := range goodLocks() {
		in := roomy(l)
		expect(t, name, locks.Check(in), api.OK)
		checkUntouched(t, name, in, l)
	}
}

// P8.1: locks that may not be, for one sentence of the words each.
func TestCheckOfWhatMayNotBe(t *testing.T) {
	for name, l := range badLocks() {
		in := roomy(l)
		expect(t, name, locks.Check(in), api.ErrLocks)
		checkUntouched(t, name, in, l)
	}
}

// P8.1: as many queues as there may be, and one more.
func TestCheckOfManyQueues(t *testing.T) {
	for _, n := range []int{1, api.MaxQueues - 1, api.MaxQueues} {
		expect(t, "queues that there may be", locks.Check(many(n)), api.OK)
	}
	expect(t, "one queue more", locks.Check(many(api.MaxQueues+1)), api.ErrLocks)
}

// P8.1: each two that are locked, in both orders: by Table, a table ahead of its keys, these by Id.
func TestCheckOfTheOrder(t *testing.T) {
	rising := []api.Res{
		table(0), key(0, 0), key(0, 1), key(0, 255), key(0, 256), key(0, 65535),
		table(1), key(1, 0), key(1, 3), key(1, 32768), key(1, 65535),
		table(2), key(2, 0), key(2, 65535),
	}
	var l api.Locks
	for i, a := range rising {
		l.Queues = append(l.Queues, queue(a, holds(1, x), nil))
		for j, b := range rising {
			want := api.ErrLocks
			if i < j {
				want = api.OK
			}
			expect(t, "two queues", locks.Check(all(queue(a, holds(1, x), nil), queue(b, holds(1, x), nil))), want)
		}
	}
	expect(t, "all of them", locks.Check(l), api.OK)
	slices.Reverse(l.Queues)
	expect(t, "all of them, falling", locks.Check(l), api.ErrLocks)
}

// P8.1: each mode of tables, and of keys, held by one; and each two, each three together.
func TestCheckOfHolders(t *testing.T) {
	for _, r := range []api.Res{tab, k} {
		for m := range 8 {
			want := api.ErrLocks
			if slices.Contains(modesOf(r), m) {
				want = api.OK
			}
			expect(t, "one holder", locks.Check(one(r, holds(3, m))), want)
		}
		for _, a := range modesOf(r) {
			for _, b := range modesOf(r) {
				want := api.ErrLocks
				if mode.Goes(a, b) {
					want = api.OK
				}
				expect(t, "two holders", locks.Check(one(r, holds(3, a, 4, b))), want)
				for _, c := range modesOf(r) {
					want := api.ErrLocks
					if mode.Goes(a, b) && mode.Goes(b, c) && mode.Goes(a, c) {
						want = api.OK
					}
					expect(t, "three holders", locks.Check(one(r, holds(3, a, 4, b, 9, c))), want)
				}
			}
		}
	}
}

// eachHolders tells all rows of at most so many holders, of these transactions and modes.
func eachHolders(most int, txns, modes []int, tell func(hs []api.Hold)) {
	var grow func(hs []api.Hold)
	grow = func(hs []api.Hold) {
		tell(hs)
		if len(hs) == most {
			return
		}
		for _, txn := range txns {
			for _, m := range modes {
				grow(append(slices.Clone(hs), api.Hold{Txn: txn, Mode: m}))
			}
		}
	}
	grow(nil)
}

// eachWaiters tells all rows of at most so many waiters, of these transactions and modes.
func eachWaiters(most int, txns, modes []int, tell func(ws []api.Wait)) {
	var grow func(ws []api.Wait)
	grow = func(ws []api.Wait) {
		tell(ws)
		if len(ws) == most {
			return
		}
		for _, txn := range txns {
			for _, m := range modes {
				for _, h := range modes {
					grow(append(slices.Clone(ws), api.Wait{Txn: txn, Mode: m, Held: h}))
				}
			}
		}
	}
	grow(nil)
}

// P8.1: all queues of few transactions and modes, held against the words, sentence by sentence.
func TestCheckOfAllSmallQueues(t *testing.T) {
	for _, some := range []struct {
		r       api.Res
		modes   []int
		waiters int
		may     int
	}{
		{k, []int{none, s, e, x, is}, 2, 100},
		{tab, []int{none, is, ix, s, six, x, e}, 1, 100},
		{tab, []int{none, is, ix, six}, 2, 100},
	} {
		met := map[api.Errno]int{}
		eachHolders(2, []int{1, 2, 3}, some.modes, func(hs []api.Hold) {
			eachWaiters(some.waiters, []int{1, 2, 3}, some.modes, func(ws []api.Wait) {
				l := all(queue(some.r, hs, ws))
				want := api.ErrLocks
				if mayBeByWords(l) {
					want = api.OK
				}
				met[want]++
				if got := locks.Check(l); got != want {
					t.Fatalf("%v: error %d, want %d", l, got, want)
				}
			})
		})
		if met[api.OK] < some.may || met[api.ErrLocks] < some.may {
			t.Fatalf("too few of one kind: %v", met)
		}
	}
}

// P8.1: each two queues of which one waits in each, or two do; nobody waits in both.
func TestCheckOfWaitersInTwoQueues(t *testing.T) {
	for first := range 5 {
		for second := range 5 {
			l := all(queue(tab, holds(8, x), wants(first+1, s, none, 6, is, none)), queue(key(1, 0), holds(8, s), wants(7, x, none, second+1, s, none)))
			want := api.OK
			if first == second {
				want = api.ErrLocks
			}
			expect(t, "two queues", locks.Check(l), want)
		}
	}
}

// P8.1: many holders, and many waiters, of one queue are asked for soon.
func TestCheckOfALongQueue(t *testing.T) {
	q := queue(tab, nil, wants(20001, x, none))
	for i := range 20000 {
		q.Holders = append(q.Holders, api.Hold{Txn: i + 1, Mode: is})
		q.Waiters = append(q.Waiters, api.Wait{Txn: i + 20002, Mode: s})
	}
	expect(t, "a long queue", locks.Check(all(q)), api.OK)
	q.Holders[19999].Mode = x
	expect(t, "the last one apart", locks.Check(all(q)), api.ErrLocks)
	q.Holders[19999].Mode = is
	q.Waiters[20000].Txn = 20002
	expect(t, "the last one twice", locks.Check(all(q)), api.ErrLocks)
}
