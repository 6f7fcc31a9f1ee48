package escrow

import (
	"cmp"
	"iter"
	"slices"

	"bursary/api"
	"bursary/row"
)

// cloned is a pending key that is the same, and shares no memory.
func cloned(p api.Pending) api.Pending {
	p.Shares = slices.Clone(p.Shares)
	return p
}

// copied is an escrow that is the same, and shares no memory.
func copied(e api.Escrow) api.Escrow {
	out := api.Escrow{Rows: slices.Clone(e.Rows)}
	for i, p := range out.Rows {
		out.Rows[i] = cloned(p)
	}
	return out
}

// place is where a key stands in an escrow that may be, or would stand, and whether it is there.
func place(e api.Escrow, k api.Key) (int, bool) {
	return slices.BinarySearchFunc(e.Rows, k, func(p api.Pending, k api.Key) int { return row.Compare(p.Key, k) })
}

// pendingOf is the pending key of an escrow that may be, and whether it is there.
func pendingOf(e api.Escrow, k api.Key) (api.Pending, bool) {
	i, there := place(e, k)
	if !there {
		return api.Pending{}, false
	}
	return e.Rows[i], true
}

// with is a copy of an escrow with that pending key, in the place of the one of its Key or as one more.
func with(e api.Escrow, p api.Pending) api.Escrow {
	out := copied(e)
	if i, there := place(out, p.Key); there {
		out.Rows[i] = p
	} else {
		out.Rows = slices.Insert(out.Rows, i, p)
	}
	return out
}

// shareAt is where a transaction's share stands, or would stand, and whether it is there.
func shareAt(p api.Pending, txn int) (int, bool) {
	return slices.BinarySearchFunc(p.Shares, txn, func(s api.Share, txn int) int { return cmp.Compare(s.Txn, txn) })
}

// shareOf is a transaction's share, or one of noughts, and whether it is there.
func shareOf(p api.Pending, txn int) (api.Share, bool) {
	i, has := shareAt(p, txn)
	if !has {
		return api.Share{Txn: txn}, false
	}
	return p.Shares[i], true
}

// sharesOf tells each pending key to which a transaction has added, and where its share stands there, in order.
func sharesOf(e api.Escrow, txn int) iter.Seq2[*api.Pending, int] {
	return func(yield func(p *api.Pending, i int) bool) {
		for j := range e.Rows {
			p := &e.Rows[j]
			if i, has := shareAt(*p, txn); has && !yield(p, i) {
				return
			}
		}
	}
}

// changed is a copy of a pending key with what is done to a transaction's share, which begins with noughts, if there is none.
func changed(p api.Pending, txn int, do func(s *api.Share)) api.Pending {
	out := cloned(p)
	i, has := shareAt(out, txn)
	if !has {
		out.Shares = slices.Insert(out.Shares, i, api.Share{Txn: txn})
	}
	do(&out.Shares[i])
	return out
}

// added is a pending key behind a transaction's adding to it, if that is let be. It may have no shares yet.
func added(p api.Pending, txn int, d int64, b api.Bounds) (api.Pending, api.Errno) {
	if !isTxn(txn) || b.Min > b.Max {
		return api.Pending{}, api.ErrArg
	}
	s, has := shareOf(p, txn)
	if !has && len(p.Shares) == api.MaxShares {
		return api.Pending{}, api.ErrFull
	}
	now, fits := row.Plus(s.Sum, d)
	if !fits {
		return api.Pending{}, api.ErrBound
	}
	out := changed(p, txn, func(s *api.Share) { s.Sum, s.Hi, s.Lo = now, max(s.Hi, now), min(s.Lo, now) })
	if leaves(out, b) {
		return api.Pending{}, api.ErrBound
	}
	return out, api.OK
}
