package locks_test

import (
	"testing"

	"bursary/api"
	"bursary/locks"
)

// wanted is what somebody comes to want that holds a mode, of a row, and asks for another one, of a column; 0, where it has that already.
type wanted map[int][]int

// The columns of tables are IS, IX, S, SIX, X; those of keys S, E, X.
var (
	wantedOfTables = wanted{
		none: {is, ix, s, six, x},
		is:   {0, ix, s, six, x},
		ix:   {0, 0, six, six, x},
		s:    {0, six, 0, six, x},
		six:  {0, 0, 0, 0, x},
		x:    {0, 0, 0, 0, 0},
	}
	wantedOfKeys = wanted{
		none: {s, e, x},
		s:    {0, x, x},
		e:    {x, 0, x},
		x:    {0, 0, 0},
	}
)

// wantedOf is what is wanted of something.
func wantedOf(r api.Res) wanted {
	if r.IsKey {
		return wantedOfKeys
	}
	return wantedOfTables
}

// apart says, by the chapter of modes, whether two modes don't go together.
func apart(a, b int) bool {
	with := map[int][]int{is: {x}, ix: {s, six, x}, s: {ix, six, x, e}, six: {ix, s, six, x}, x: {is, ix, s, six, x, e}, e: {s, x}}
	for _, m := range with[a] {
		if m == b {
			return true
		}
	}
	return false
}

// P8.2: nobody holds it: whatever is asked for is granted.
func TestAskWhereNobodyHolds(t *testing.T) {
	for _, r := range []api.Res{tab, table(2), k, key(0, 0), key(2, 65535)} {
		for _, m := range modesOf(r) {
			for _, txn := range []int{1, 11, api.MaxTxn} {
				checkLocks(t, "Ask", ask(t, api.Locks{}, txn, r, m, granted), one(r, holds(txn, m)))
			}
		}
	}
}

// P8.2: a new queue stands in its place among the others, which stay.
func TestAskForANewQueue(t *testing.T) {
	rising := []api.Res{table(0), key(0, 3), key(0, 4), table(1), key(1, 0), table(2), key(2, 9)}
	for i, r := range rising {
		var l, want api.Locks
		for j, other := range rising {
			q := queue(other, holds(1, s, 2, s), nil)
			if i == j {
				want.Queues = append(want.Queues, queue(r, holds(3, x), nil))
				continue
			}
			l.Queues, want.Queues = append(l.Queues, q), append(want.Queues, q)
		}
		checkLocks(t, "Ask", ask(t, l, 3, r, x, granted), want)
	}
}

// P8.2: the asker alone holds it: it has what is asked for, or is granted the sup.
func TestAskWhereTheAskerHolds(t *testing.T) {
	for _, r := range []api.Res{tab, k} {
		for _, own := range modesOf(r) {
			for i, m := range modesOf(r) {
				l := one(r, holds(4, own))
				want := wantedOf(r)[own][i]
				if want == 0 {
					checkLocks(t, "Ask", ask(t, l, 4, r, m, had), l)
				} else {
					checkLocks(t, "Ask", ask(t, l, 4, r, m, granted), one(r, holds(4, want)))
				}
			}
		}
	}
}

// P8.2: another one holds it, of a lesser or a greater number: what is asked for is granted, if it goes with that; else it is waited for.
func TestAskWhereOneOtherHolds(t *testing.T) {
	for _, r := range []api.Res{tab, k} {
		for _, held := range modesOf(r) {
			for _, m := range modesOf(r) {
				l := one(r, holds(5, held))
				if apart(held, m) {
					checkLocks(t, "Ask", ask(t, l, 4, r, m, waits), one(r, holds(5, held), 4, m, none))
					checkLocks(t, "Ask", ask(t, l, 6, r, m, waits), one(r, holds(5, held), 6, m, none))
				} else {
					checkLocks(t, "Ask", ask(t, l, 4, r, m, granted), one(r, holds(4, m, 5, held)))
					checkLocks(t, "Ask", ask(t, l, 6, r, m, granted), one(r, holds(5, held, 6, m)))
				}
			}
		}
	}
}

// P8.2: the asker holds it, and two others do, in whichever modes go together: the sup is granted, if it goes with theirs; else it is waited for.
func TestAskWhereSeveralHold(t *testing.T) {
	for _, r := range []api.Res{tab, k} {
		met := map[int]int{}
		for _, own := range modesOf(r) {
			for _, a := range modesOf(r) {
				for _, b := range modesOf(r) {
					if apart(own, a) || apart(own, b) || apart(a, b) {
						continue
					}
					l := one(r, holds(4, a, 5, own, 6, b))
					for i, m := range modesOf(r) {
						want := wantedOf(r)[own][i]
						switch {
						case want == 0:
							checkLocks(t, "Ask", ask(t, l, 5, r, m, had), l)
							met[had]++
						case apart(want, a) || apart(want, b):
							checkLocks(t, "Ask", ask(t, l, 5, r, m, waits), one(r, holds(4, a, 5, own, 6, b), 5, want, own))
							met[waits]++
						default:
							checkLocks(t, "Ask", ask(t, l, 5, r, m, granted), one(r, holds(4, a, 5, want, 6, b)))
							met[granted]++
						}
					}
				}
			}
		}
		if met[had] == 0 || met[waits] == 0 || met[granted] == 0 && !r.IsKey {
			t.Fatalf("of %v: %v", r, met)
		}
	}
}

// P8.2: who holds nothing there waits behind whoever waits, though its mode goes with all holders'.
func TestAskBehindWaiters(t *testing.T) {
	l := one(k, holds(1, s), 2, x, none)
	l = ask(t, l, 3, k, s, waits)
	l = ask(t, l, 4, k, e, waits)
	checkLocks(t, "Ask", l, one(k, holds(1, s), 2, x, none, 3, s, none, 4, e, none))
	l = one(tab, holds(1, is, 2, s), 2, x, s)
	l = ask(t, l, 3, tab, is, waits)
	checkLocks(t, "Ask", l, one(tab, holds(1, is, 2, s), 2, x, s, 3, is, none))
}

// P8.2: a conversion goes ahead of all others, behind the conversions that were there.
func TestAskForAConversion(t *testing.T) {
	l := one(k, holds(1, s, 2, s, 3, s), 4, x, none, 5, e, none)
	l = ask(t, l, 3, k, x, waits)
	checkLocks(t, "the first one", l, one(k, holds(1, s, 2, s, 3, s), 3, x, s, 4, x, none, 5, e, none))
	l = ask(t, l, 1, k, e, waits)
	checkLocks(t, "the second one", l, one(k, holds(1, s, 2, s, 3, s), 3, x, s, 1, x, s, 4, x, none, 5, e, none))
	l = ask(t, l, 2, k, x, waits)
	checkLocks(t, "the third one", l, one(k, holds(1, s, 2, s, 3, s), 3, x, s, 1, x, s, 2, x, s, 4, x, none, 5, e, none))
	l = ask(t, l, 6, k, s, waits)
	checkLocks(t, "another one", l, one(k, holds(1, s, 2, s, 3, s), 3, x, s, 1, x, s, 2, x, s, 4, x, none, 5, e, none, 6, s, none))
}

// P8.2: a conversion that goes with all other holders is granted at once, though others wait, conversions too.
func TestAskForAConversionThatGoes(t *testing.T) {
	l := one(tab, holds(1, is, 2, ix, 3, is), 2, x, ix, 4, s, none)
	l = ask(t, l, 1, tab, ix, granted)
	checkLocks(t, "IX", l, one(tab, holds(1, ix, 2, ix, 3, is), 2, x, ix, 4, s, none))
	l = one(k, holds(1, s), 2, x, none, 3, s, none)
	l = ask(t, l, 1, k, x, granted)
	checkLocks(t, "X", l, one(k, holds(1, x), 2, x, none, 3, s, none))
	l = one(tab, holds(1, is, 2, s), 3, ix, none)
	l = ask(t, l, 2, tab, ix, granted)
	checkLocks(t, "SIX", l, one(tab, holds(1, is, 2, six), 3, ix, none))
}

// P8.2: who waits for something may ask for nothing, be it what it has; nobody else is kept from asking.
func TestAskOfOneThatWaits(t *testing.T) {
	l := all(queue(tab, holds(2, is), nil), queue(k, holds(1, s, 3, s), wants(3, x, s, 2, e, none)))
	for _, txn := range []int{2, 3} {
		for _, r := range []api.Res{tab, k, key(0, 6), key(0, 8), table(2)} {
			for _, m := range modesOf(r) {
				refuse(t, l, txn, r, m, api.ErrBusy)
			}
		}
	}
	ask(t, l, 1, k, s, had)
	ask(t, l, 1, tab, ix, granted)
	ask(t, l, 4, table(1), x, granted)
}

// P8.2: what it has changes nothing, wherever others wait.
func TestAskForWhatItHas(t *testing.T) {
	l := goodLocks()["in several queues"]
	for _, q := range []struct {
		txn  int
		r    api.Res
		mode int
	}{{5, table(2), x}, {5, key(2, 7), e}} {
		l := ask(t, l, q.txn, q.r, q.mode, granted)
		checkLocks(t, "once more", ask(t, l, q.txn, q.r, q.mode, had), l)
	}
	l = one(k, holds(1, x), 2, s, none)
	for _, m := range keyModes {
		checkLocks(t, "of X", ask(t, l, 1, k, m, had), l)
	}
}

// P8.2: ErrFull, where a queue would be one too many; what has a queue is asked for, and had, and waited for, even then.
func TestAskOfFullLocks(t *testing.T) {
	l := many(api.MaxQueues)
	refuse(t, l, 1, table(2), s, api.ErrFull)
	refuse(t, l, 2, key(0, 65535), x, api.ErrFull)
	refuse(t, l, api.MaxTxn, table(0), is, api.ErrFull)
	last := l.Queues[api.MaxQueues-1].Res
	ask(t, l, 1, last, s, had)
	ask(t, l, 1, last, x, granted)
	ask(t, l, 2, last, s, granted)
	if out := ask(t, l, 2, last, x, waits); len(out.Queues) != api.MaxQueues {
		t.Fatalf("%d queues", len(out.Queues))
	}
	l = many(api.MaxQueues - 1)
	l = ask(t, l, 2, table(2), s, granted)
	if len(l.Queues) != api.MaxQueues || l.Queues[api.MaxQueues-1].Res != table(2) {
		t.Fatalf("%d queues, the last one of %v", len(l.Queues), l.Queues[len(l.Queues)-1].Res)
	}
	refuse(t, l, 2, table(1), s, api.ErrFull)
	l = leave(t, locks.Release, l, 2)
	ask(t, l, 2, key(2, 0), s, granted)
}

// P8.2: ErrArg of what is no transaction, of what is nothing that is locked, and of what is no mode of it.
func TestAskOfWhatMayNotBe(t *testing.T) {
	for _, l := range []api.Locks{{}, goodLocks()["in several queues"]} {
		for _, txn := range noTxns {
			refuse(t, l, txn, k, s, api.ErrArg)
		}
		for _, r := range noRes() {
			refuse(t, l, 5, r, s, api.ErrArg)
			refuse(t, l, 5, r, x, api.ErrArg)
		}
		for _, m := range noModes {
			refuse(t, l, 5, k, m, api.ErrArg)
			refuse(t, l, 5, tab, m, api.ErrArg)
		}
		for _, m := range []int{none, is, ix, six} {
			refuse(t, l, 5, k, m, api.ErrArg)
		}
		for _, m := range []int{none, e} {
			refuse(t, l, 5, tab, m, api.ErrArg)
		}
	}
	refuse(t, one(tab, holds(5, x)), 5, tab, e, api.ErrArg) // though X covers E
	refuse(t, one(k, holds(5, x)), 5, k, is, api.ErrArg)
	refuse(t, one(k, holds(5, x)), 5, k, none, api.ErrArg)
}

// P8.2: which of several errors is answered: ErrLocks, then ErrArg, ErrBusy, ErrFull.
func TestAskErrorsInOrder(t *testing.T) {
	for name, l := range badLocks() {
		for _, txn := range []int{0, 1, 2, 3, 11, api.MaxTxn + 1} {
			refuse(t, l, txn, k, s, api.ErrLocks)
		}
		refuse(t, l, 0, table(-1), 7, api.ErrLocks)
		if locks.Check(l) != api.ErrLocks {
			t.Fatalf("%s may be", name)
		}
	}
	l := many(api.MaxQueues)
	l.Queues[3].Waiters = wants(2, x, none)
	refuse(t, l, 0, table(2), s, api.ErrArg)
	refuse(t, l, 1, table(3), s, api.ErrArg)
	refuse(t, l, 1, table(2), e, api.ErrArg)
	refuse(t, l, 2, table(2), e, api.ErrArg)
	refuse(t, l, 2, table(3), s, api.ErrArg)
	refuse(t, l, 2, table(2), s, api.ErrBusy)
	refuse(t, l, 2, l.Queues[3].Res, x, api.ErrBusy)
	refuse(t, l, 1, table(2), s, api.ErrFull)
}

// R3: what Ask answers is new memory, and no two lists of it share any.
func TestAskAnswersNewMemory(t *testing.T) {
	for name, l := range goodLocks() {
		for _, q := range []struct {
			r    api.Res
			mode int
		}{{k, s}, {k, x}, {tab, is}, {tab, x}, {table(2), ix}, {key(2, 9), e}} {
			for txn := range 8 {
				in := roomy(l)
				out, _, err := locks.Ask(in, txn+1, q.r, q.mode)
				if err == api.OK {
					checkNew(t, name, out, in)
					checkUntouched(t, name, in, l)
				}
			}
		}
	}
}
