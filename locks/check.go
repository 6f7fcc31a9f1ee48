package locks

import (
	"cmp"
	"slices"

	"bursary/api"
	"bursary/mode"
)

// mayCall asks whether a call may have these locks and this transaction.
func mayCall(l api.Locks, txn int) api.Errno {
	if e := Check(l); e != api.OK {
		return e
	}
	if !isTxn(txn) {
		return api.ErrArg
	}
	return api.OK
}

// mayAsk asks whether a transaction may ask for something in a mode.
func mayAsk(l api.Locks, txn int, res api.Res, m int) api.Errno {
	if e := mayCall(l, txn); e != api.OK {
		return e
	}
	if !isRes(res) || !isModeOf(res, m) {
		return api.ErrArg
	}
	if _, _, waits := waiting(l, txn); waits {
		return api.ErrBusy
	}
	return api.OK
}

// isTxn says whether it is a transaction's number.
func isTxn(txn int) bool {
	return txn >= 1 && txn <= api.MaxTxn
}

// isRes says whether it is something that is locked.
func isRes(r api.Res) bool {
	return r.Table >= 0 && r.Table < api.MaxTables && (r.IsKey || r.Id == 0)
}

// isModeOf says whether something is locked in such a mode.
func isModeOf(r api.Res, m int) bool {
	if m == api.ModeNone {
		return false
	}
	if r.IsKey {
		return mode.OfKeys(m)
	}
	return mode.OfTables(m)
}

// compare is the order of what is locked: below 0, if a stands ahead of b.
func compare(a, b api.Res) int {
	return cmp.Or(cmp.Compare(a.Table, b.Table), cmp.Compare(inTable(a), inTable(b)))
}

// inTable is the place of a table, or of its key, among these.
func inTable(r api.Res) int {
	if !r.IsKey {
		return 0
	}
	return 1 + int(r.Id)
}

// waitsTwice says whether some transaction waits in two places, of one queue or of two.
func waitsTwice(l api.Locks) bool {
	var all []int
	for _, q := range l.Queues {
		for _, w := range q.Waiters {
			all = append(all, w.Txn)
		}
	}
	slices.Sort(all)
	return len(slices.Compact(all)) < len(all)
}

// mayBe says whether there may be such a queue; holders are asked first, for of waiters is asked what they hold.
func mayBe(q api.Queue) bool {
	return isRes(q.Res) && holdersFit(q) && waitersFit(q)
}

// holdersFit says whether there may be such holders.
func holdersFit(q api.Queue) bool {
	for i, h := range q.Holders {
		if !isTxn(h.Txn) || !isModeOf(q.Res, h.Mode) {
			return false
		}
		if i > 0 && q.Holders[i-1].Txn >= h.Txn {
			return false
		}
	}
	return len(q.Holders) > 0 && together(q.Holders)
}

// together says whether each two of the holders go together. Many may hold the same mode, so each is held against those that were met, not against each holder.
func together(holders []api.Hold) bool {
	var met []int
	for _, h := range holders {
		for _, m := range met {
			if !mode.Goes(h.Mode, m) {
				return false
			}
		}
		if !slices.Contains(met, h.Mode) {
			met = append(met, h.Mode)
		}
	}
	return true
}

// waitersFit says whether there may be such waiters behind holders that may be.
func waitersFit(q api.Queue) bool {
	for i, w := range q.Waiters {
		if !isTxn(w.Txn) || !isModeOf(q.Res, w.Mode) || w.Held != held(q, w.Txn) {
			return false
		}
		if mode.Covers(w.Held, w.Mode) || !mode.Covers(w.Mode, w.Held) {
			return false
		}
		if i > 0 && converts(w) && !converts(q.Waiters[i-1]) {
			return false
		}
	}
	return len(q.Waiters) == 0 || !goes(q, q.Waiters[0])
}
