package locks

import (
	"cmp"
	"iter"
	"slices"

	"bursary/api"
	"bursary/mode"
)

// cloned is locks that are the same, and share no memory.
func cloned(l api.Locks) api.Locks {
	out := api.Locks{Queues: slices.Clone(l.Queues)}
	for i, q := range out.Queues {
		out.Queues[i].Holders = slices.Clone(q.Holders)
		out.Queues[i].Waiters = slices.Clone(q.Waiters)
	}
	return out
}

// place is where the queue of something stands, or would stand, and whether it is there.
func place(l api.Locks, r api.Res) (int, bool) {
	i, _ := slices.BinarySearchFunc(l.Queues, r, func(q api.Queue, r api.Res) int { return compare(q.Res, r) })
	return i, i < len(l.Queues) && l.Queues[i].Res == r
}

// queueOf is the queue of something, and whether it is there.
func queueOf(l api.Locks, r api.Res) (api.Queue, bool) {
	i, there := place(l, r)
	if !there {
		return api.Queue{}, false
	}
	return l.Queues[i], true
}

// queuesOf tells the queues in which a transaction holds something or waits, in order.
func queuesOf(l api.Locks, txn int) iter.Seq[*api.Queue] {
	return func(yield func(q *api.Queue) bool) {
		for i := range l.Queues {
			q := &l.Queues[i]
			if held(*q, txn) == api.ModeNone && waiter(*q, txn) < 0 {
				continue
			}
			if !yield(q) {
				return
			}
		}
	}
}

// changed is a copy of the locks with what is done to the queue of something, which is made for it, if there is none.
func changed(l api.Locks, r api.Res, do func(q *api.Queue)) api.Locks {
	out := cloned(l)
	i, there := place(out, r)
	if !there {
		out.Queues = slices.Insert(out.Queues, i, api.Queue{Res: r})
	}
	do(&out.Queues[i])
	return out
}

// without is a copy of the locks with what is done to each queue of a transaction, which is pumped then, and who was granted so. Where nothing is gone nobody goes, so all of them may be pumped.
func without(l api.Locks, txn int, do func(q *api.Queue)) (api.Locks, []int) {
	out := cloned(l)
	var granted []int
	for q := range queuesOf(out, txn) {
		do(q)
		granted = append(granted, pump(q)...)
	}
	out.Queues = slices.DeleteFunc(out.Queues, func(q api.Queue) bool { return len(q.Holders) == 0 })
	return out, granted
}

// pump grants the first waiter, as long as it goes; and who was granted so, in order.
func pump(q *api.Queue) []int {
	var granted []int
pumping:
	for len(q.Waiters) > 0 {
		first := q.Waiters[0]
		for _, h := range q.Holders {
			if hinders(h, first) {
				break pumping
			}
		}
		q.Waiters = q.Waiters[1:]
		grant(q, first)
		granted = append(granted, first.Txn)
	}
	return granted
}

// grant lets a waiter hold its mode, in the place of what it held.
func grant(q *api.Queue, w api.Wait) {
	h := api.Hold{Txn: w.Txn, Mode: w.Mode}
	if i, holds := holder(*q, w.Txn); holds {
		q.Holders[i] = h
	} else {
		q.Holders = slices.Insert(q.Holders, i, h)
	}
}

// lineUp lets a waiter wait: a conversion behind the other ones, another one behind all.
func lineUp(q *api.Queue, w api.Wait) {
	i := len(q.Waiters)
	if converts(w) {
		for i > 0 && !converts(q.Waiters[i-1]) {
			i--
		}
	}
	q.Waiters = slices.Insert(q.Waiters, i, w)
}

// dropHold takes away what a transaction holds.
func dropHold(q *api.Queue, txn int) {
	q.Holders = slices.DeleteFunc(q.Holders, func(h api.Hold) bool { return h.Txn == txn })
}

// dropWait takes away a transaction's waiting.
func dropWait(q *api.Queue, txn int) {
	q.Waiters = slices.DeleteFunc(q.Waiters, func(w api.Wait) bool { return w.Txn == txn })
}

// wanting is the waiter that a transaction would be that asks for a mode, and whether it has that mode already. The sup is there, for both modes are of what is locked.
func wanting(q api.Queue, txn, m int) (api.Wait, bool) {
	own := held(q, txn)
	if mode.Covers(own, m) {
		return api.Wait{}, true
	}
	sup, _ := mode.Sup(own, m)
	return api.Wait{Txn: txn, Mode: sup, Held: own}, false
}

// converts says whether a waiter holds something there.
func converts(w api.Wait) bool {
	return w.Held != api.ModeNone
}

// hinders says whether a holder is another one than the waiter, and its mode does not go with the waiter's.
func hinders(h api.Hold, w api.Wait) bool {
	return h.Txn != w.Txn && !mode.Goes(h.Mode, w.Mode)
}

// goes says whether a waiter's mode goes with those of all other holders.
func goes(q api.Queue, w api.Wait) bool {
	return !slices.ContainsFunc(q.Holders, func(h api.Hold) bool { return hinders(h, w) })
}

// holder is the place among the holders, which rise, where a transaction stands, or would stand, and whether it is there.
func holder(q api.Queue, txn int) (int, bool) {
	return slices.BinarySearchFunc(q.Holders, txn, func(h api.Hold, txn int) int { return cmp.Compare(h.Txn, txn) })
}

// held is the mode that a transaction holds there.
func held(q api.Queue, txn int) int {
	if i, holds := holder(q, txn); holds {
		return q.Holders[i].Mode
	}
	return api.ModeNone
}

// waiter is the place among the waiters where a transaction stands; below 0, if it does not.
func waiter(q api.Queue, txn int) int {
	return slices.IndexFunc(q.Waiters, func(w api.Wait) bool { return w.Txn == txn })
}

// waiting is the queue in which a transaction waits, its place among the waiters there, and whether it waits.
func waiting(l api.Locks, txn int) (api.Queue, int, bool) {
	for q := range queuesOf(l, txn) {
		if i := waiter(*q, txn); i >= 0 {
			return *q, i, true
		}
	}
	return api.Queue{}, 0, false
}
