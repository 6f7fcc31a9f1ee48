package escrow_test

import (
	"testing"

	"bursary/api"
)

// P10.5: Back of part, of all, of nothing; Hi and Lo stay, and so do a share of noughts and all others.
func TestBack(t *testing.T) {
	others := []api.Pending{pending(key(0, 3), 5, share(2, -1, 0, 1)), pending(key(1, 1), 5, share(2, -1, 1, 1))}
	before := func(s api.Share) api.Escrow {
		return rows(others[0], pending(k, 4, share(1, 0, 3, 3), s, share(9, -2, -2, 2)), others[1])
	}
	for d := int64(-20); d <= 20; d++ {
		if left := 5 - d; left < -3 || left > 6 {
			refuseBack(t, "too far", before(share(2, -3, 5, 6)), k, 2, d, api.ErrArg)
		} else {
			checkBack(t, before(share(2, -3, 5, 6)), k, 2, d, before(share(2, -3, left, 6)))
		}
		if left := -4 - d; left < -4 || left > 0 {
			refuseBack(t, "too far", before(share(2, -4, -4, 0)), k, 2, d, api.ErrArg)
		} else {
			checkBack(t, before(share(2, -4, -4, 0)), k, 2, d, before(share(2, -4, left, 0)))
		}
		if d != 0 {
			refuseBack(t, "of noughts", before(share(2, 0, 0, 0)), k, 2, d, api.ErrArg)
		}
	}
	checkBack(t, before(share(2, 0, 0, 0)), k, 2, 0, before(share(2, 0, 0, 0)))
}

// P10.5: Back at the ends of 64 bits: what is left is reckoned without going round.
func TestBackOf64Bits(t *testing.T) {
	at := func(lo, sum, hi int64) api.Escrow { return rows(pending(k, 0, share(1, lo, sum, hi))) }
	checkBack(t, at(least, -1, most), k, 1, least, at(least, most, most))
	checkBack(t, at(least, 0, most), k, 1, most, at(least, -most, most))
	checkBack(t, at(least, -1, most), k, 1, most, at(least, least, most))
	checkBack(t, at(least, most, most), k, 1, most, at(least, 0, most))
	checkBack(t, at(least, least, most), k, 1, least, at(least, 0, most))
	checkBack(t, at(least, least, most), k, 1, -most, at(least, -1, most))
	checkBack(t, at(-1, -1, most), k, 1, least, at(-1, most, most))
	refuseBack(t, "0 less the least", at(least, 0, most), k, 1, least, api.ErrArg)
	refuseBack(t, "most less the least", at(least, most, most), k, 1, least, api.ErrArg)
	refuseBack(t, "most less below 0", at(least, most, most), k, 1, -1, api.ErrArg)
	refuseBack(t, "most less -2, round to least", at(least, most, most), k, 1, -2, api.ErrArg)
	refuseBack(t, "least less 1", at(least, least, most), k, 1, 1, api.ErrArg)
	refuseBack(t, "least less most", at(least, least, most), k, 1, most, api.ErrArg)
	refuseBack(t, "-2 less most", at(least, -2, most), k, 1, most, api.ErrArg)
	refuseBack(t, "5 less the least, round below 0", at(least, 5, 5), k, 1, least, api.ErrArg)
}

// P10.5: Back of each one's share, of escrows of all kinds, right to Lo and to Hi, and one beyond them; held against numbers without end.
func TestBackToLoAndHi(t *testing.T) {
	for name, e := range goodEscrows() {
		for i, p := range e.Rows {
			for j, s := range p.Shares {
				for _, to := range []int64{s.Lo, s.Hi, s.Sum, 0, s.Lo - 1, s.Hi + 1} {
					d := together(s.Sum)
					d.Sub(d, together(to))
					if !d.IsInt64() {
						continue
					}
					if to < s.Lo || to > s.Hi {
						refuseBack(t, name, e, p.Key, s.Txn, d.Int64(), api.ErrArg)
						continue
					}
					want := copied(e)
					want.Rows[i].Shares[j].Sum = to
					checkBack(t, e, p.Key, s.Txn, d.Int64(), want)
				}
			}
		}
	}
}

// P10.5: Back of a key that is not pending, of who has no share there, and of what is no key and no transaction.
func TestBackOfNone(t *testing.T) {
	e := rows(pending(key(0, 3), 5, share(2, -1, 0, 1)), pending(k, 4, share(1, 0, 3, 3), share(4, -2, -2, 2)))
	for _, d := range []int64{0, 1, -1, 100, most, least} {
		for _, k := range []api.Key{key(0, 2), key(0, 4), key(0, 6), key(0, 8), key(1, 7), key(2, 3), {}} {
			refuseBack(t, "a key that is not pending", e, k, 1, d, api.ErrNone)
			refuseBack(t, "a key that is not pending", e, k, 2, d, api.ErrNone)
		}
		for _, txn := range []int{2, 3, 5, api.MaxTxn} {
			refuseBack(t, "no share there", e, k, txn, d, api.ErrNone)
		}
		for _, no := range noTxns {
			refuseBack(t, "no transaction", e, k, no, d, api.ErrNone)
			refuseBack(t, "no transaction, no key", e, key(2, 7), no, d, api.ErrNone)
		}
		for _, no := range noTables {
			refuseBack(t, "no table", e, key(no, 7), 1, d, api.ErrNone)
		}
		refuseBack(t, "no key", rows(), k, 1, d, api.ErrNone)
		refuseBack(t, "a zero share's, no key", rows(), k, 0, d, api.ErrNone)
	}
}

// P10.5: Over of one who commits, of one who does not, with shares of several keys, alone there and among others.
func TestOver(t *testing.T) {
	a := pending(key(0, 3), 5, share(1, -1, 1, 1), share(2, -4, -3, 2), share(3, 0, 0, 0))
	b := pending(k, 4, share(2, 0, 3, 3))
	c := pending(key(1, 1), 6, share(1, 0, 2, 2), share(3, -3, -1, 0))
	d := pending(key(2, 1), 7, share(2, -2, -1, 5), share(9, 0, 4, 4))
	e := rows(a, b, c, d)
	checkOver(t, e, 2, true, rows(pending(a.Key, 2, a.Shares[0], a.Shares[2]), c, pending(d.Key, 6, d.Shares[1])))
	checkOver(t, e, 2, false, rows(pending(a.Key, 5, a.Shares[0], a.Shares[2]), c, pending(d.Key, 7, d.Shares[1])))
	checkOver(t, e, 1, true, rows(pending(a.Key, 6, a.Shares[1:]...), b, pending(c.Key, 8, c.Shares[1]), d))
	checkOver(t, e, 1, false, rows(pending(a.Key, 5, a.Shares[1:]...), b, pending(c.Key, 6, c.Shares[1]), d))
	checkOver(t, e, 3, true, rows(pending(a.Key, 5, a.Shares[:2]...), b, pending(c.Key, 5, c.Shares[0]), d))
	checkOver(t, e, 3, false, rows(pending(a.Key, 5, a.Shares[:2]...), b, pending(c.Key, 6, c.Shares[0]), d))
	checkOver(t, e, 9, true, rows(a, b, c, pending(d.Key, 11, d.Shares[0])))
	checkOver(t, rows(b), 2, true, rows())
	checkOver(t, rows(b), 2, false, rows())
	for _, txn := range []int{4, 8, 10, api.MaxTxn} {
		checkOver(t, e, txn, true, e)
		checkOver(t, e, txn, false, e)
		checkOver(t, rows(), txn, true, rows())
	}
}

// P10.5: Over of one who has added to all that may be: alone, nothing is left; among others, all but its shares.
func TestOverOfMany(t *testing.T) {
	for _, commits := range []bool{false, true} {
		checkOver(t, many(api.MaxPending), 5, commits, rows())
		checkOver(t, many(api.MaxPending), 4, commits, many(api.MaxPending))
		for txn := 1; txn <= api.MaxShares; txn++ {
			want := full()
			for i, p := range want.Rows {
				want.Rows[i].Shares = append(p.Shares[:txn-1:txn-1], p.Shares[txn:]...)
				if commits {
					want.Rows[i].Value++
				}
			}
			checkOver(t, full(), txn, commits, want)
		}
	}
}

// P10.5: a value with a sum at the ends of 64 bits.
func TestOverOf64Bits(t *testing.T) {
	two := share(2, 0, 0, 0)
	for _, q := range []struct {
		value, sum, want int64
	}{{least, most, -1}, {most, least, -1}, {0, most, most}, {0, least, least}, {-1, most, most - 1}, {most - 1, 1, most}, {least + 1, -1, least}} {
		one := share(1, min(0, q.sum), q.sum, max(0, q.sum))
		checkOver(t, rows(pending(k, q.value, one, two)), 1, true, rows(pending(k, q.want, two)))
		checkOver(t, rows(pending(k, q.value, one, two)), 1, false, rows(pending(k, q.value, two)))
	}
}

// P10.5: Over of numbers that are no transaction's.
func TestOverOfNoTxn(t *testing.T) {
	for name, e := range goodEscrows() {
		for _, no := range noTxns {
			refuseOver(t, name, e, no, api.ErrArg)
		}
	}
}

// P10.5: an escrow that may not be, ahead of all else.
func TestBackAndOverOfWhatMayNotBe(t *testing.T) {
	for name, e := range badEscrows() {
		for _, txn := range []int{-1, 0, 1, 2, 77, api.MaxTxn, api.MaxTxn + 1} {
			refuseOver(t, name, e, txn, api.ErrEscrow)
			for _, k := range []api.Key{k, key(0, 1), key(2, 9), key(-1, 0)} {
				refuseBack(t, name, e, k, txn, 0, api.ErrEscrow)
				refuseBack(t, name, e, k, txn, most, api.ErrEscrow)
			}
		}
	}
}
