package escrow

import "bursary/api"

// isTxn says whether it is a transaction's number.
func isTxn(txn int) bool {
	return txn >= 1 && txn <= api.MaxTxn
}

// isTable says whether it is the place of a table in some schema.
func isTable(table int) bool {
	return table >= 0 && table < api.MaxTables
}

// isShare says whether there may be such a share.
func isShare(s api.Share) bool {
	return isTxn(s.Txn) && s.Lo <= min(0, s.Sum) && s.Hi >= max(0, s.Sum)
}

// mayBe says whether there may be such a pending key; how many shares it has is asked first, for sums of a few alone fit 128 bits.
func mayBe(p api.Pending) bool {
	if !isTable(p.Key.Table) || len(p.Shares) < 1 || len(p.Shares) > api.MaxShares {
		return false
	}
	for i, s := range p.Shares {
		if !isShare(s) || i > 0 && p.Shares[i-1].Txn >= s.Txn {
			return false
		}
	}
	return end(p, lo).fits() && end(p, hi).fits()
}

// leaves says whether some choice of a pending key leaves bounds: if any does, one of its ends does.
func leaves(p api.Pending, b api.Bounds) bool {
	return end(p, lo).less(widen(b.Min)) || widen(b.Max).less(end(p, hi))
}

// reaches says whether a share's sum less d is from its Lo to its Hi: d goes to their side, so that all is added, and nothing goes round.
func reaches(s api.Share, d int64) bool {
	now := widen(s.Sum)
	return !now.less(total(s.Lo, d)) && !total(s.Hi, d).less(now)
}
