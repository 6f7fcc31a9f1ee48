package escrow_test

import (
	"testing"

	"bursary/api"
)

// P10.3: who has no share, at each bound and one beyond it.
func TestAdmitOfNoShare(t *testing.T) {
	p := pending(k, 4, share(2, -1, 0, 2)) // ends 3 and 6
	for _, txn := range []int{1, 3, 4, 1000, api.MaxTxn} {
		checkAdmit(t, "upwards, at the bound", p, txn, 4, bounds, api.OK)
		checkAdmit(t, "upwards, beyond it", p, txn, 5, bounds, api.ErrBound)
		checkAdmit(t, "downwards, at the bound", p, txn, -3, bounds, api.OK)
		checkAdmit(t, "downwards, beyond it", p, txn, -4, bounds, api.ErrBound)
		checkAdmit(t, "nothing", p, txn, 0, bounds, api.OK)
		checkAdmit(t, "the most", p, txn, most, bounds, api.ErrBound)
		checkAdmit(t, "the least", p, txn, least, bounds, api.ErrBound)
	}
}

// P10.3: who has a share, at each bound and one beyond it: what it had before counts, and what the others have had.
func TestAdmitOfAShare(t *testing.T) {
	p := pending(k, 4, share(1, 0, 1, 1), share(2, -1, -1, 2), share(3, 0, 0, 0)) // ends 3 and 7
	for _, q := range []struct {
		txn      int
		down, up int64
	}{{1, -4, 3}, {2, -3, 6}, {3, -3, 3}, {9, -3, 3}} {
		for d := int64(-20); d <= 20; d++ {
			want := api.OK
			if d < q.down || d > q.up {
				want = api.ErrBound
			}
			checkAdmit(t, "a d", p, q.txn, d, bounds, want)
		}
	}
}

// P10.3: a d that goes back inside what Hi and Lo reach already is let be, right at the bounds too.
func TestAdmitInsideWhatIsReached(t *testing.T) {
	p := pending(k, 4, share(1, -4, 3, 5), share(2, 0, 0, 1)) // ends 0 and 10
	for d := int64(-12); d <= 8; d++ {
		want := api.OK
		if 3+d < -4 || 3+d > 5 {
			want = api.ErrBound
		}
		checkAdmit(t, "a d", p, 1, d, bounds, want)
	}
	for d := int64(-3); d <= 3; d++ {
		want := api.OK
		if d < 0 || d > 1 {
			want = api.ErrBound
		}
		checkAdmit(t, "a d", p, 2, d, bounds, want)
	}
	checkAdmit(t, "who has none, nothing", p, 3, 0, bounds, api.OK)
	checkAdmit(t, "who has none, upwards", p, 3, 1, bounds, api.ErrBound)
	checkAdmit(t, "who has none, downwards", p, 3, -1, bounds, api.ErrBound)
}

// P10.3: choices that leave the bounds already are not mended by going back, nor by nothing.
func TestAdmitOutsideAlready(t *testing.T) {
	for name, p := range map[string]api.Pending{
		"above, by Hi":    pending(k, 4, share(1, 0, 2, 7)),
		"above, by Value": pending(k, 11, share(1, -3, -3, 0)),
		"below, by Lo":    pending(k, 4, share(1, -5, 2, 2)),
		"below, by Value": pending(k, -1, share(1, 0, 3, 3)),
	} {
		for _, txn := range []int{1, 2} {
			for d := int64(-4); d <= 4; d++ {
				checkAdmit(t, name, p, txn, d, bounds, api.ErrBound)
			}
		}
	}
}

// P10.3: bounds of all values, of one value, and those of few.
func TestAdmitOfBounds(t *testing.T) {
	p := pending(k, 4, share(1, 0, 0, 0))
	checkAdmit(t, "one value", p, 1, 0, api.Bounds{Min: 4, Max: 4}, api.OK)
	checkAdmit(t, "one value, upwards", p, 1, 1, api.Bounds{Min: 4, Max: 4}, api.ErrBound)
	checkAdmit(t, "one value, downwards", p, 1, -1, api.Bounds{Min: 4, Max: 4}, api.ErrBound)
	checkAdmit(t, "another value", p, 1, 0, api.Bounds{Min: 5, Max: 5}, api.ErrBound)
	checkAdmit(t, "another value, to which d leads", p, 1, 1, api.Bounds{Min: 5, Max: 5}, api.ErrBound)
	checkAdmit(t, "all values, the most", p, 1, most-4, all, api.OK)
	checkAdmit(t, "all values, one more", p, 1, most-3, all, api.ErrBound)
	checkAdmit(t, "all values, the least", p, 1, least, all, api.OK)
	checkAdmit(t, "all values below 0", pending(k, -4, share(1, 0, 0, 0)), 1, least+4, all, api.OK)
	checkAdmit(t, "all values below 0, one more", pending(k, -4, share(1, 0, 0, 0)), 1, least+3, all, api.ErrBound)
	for _, b := range []api.Bounds{{Min: 5, Max: 4}, {Min: 1, Max: 0}, {Min: 0, Max: -1}, {Min: most, Max: least}, {Min: most, Max: most - 1}, {Min: least + 1, Max: least}} {
		for _, txn := range []int{1, 2} {
			for _, d := range []int64{0, 1, -1, most, least} {
				checkAdmit(t, "Min above Max", p, txn, d, b, api.ErrArg)
			}
		}
	}
}

// P10.3: sums that do not fit 64 bits, though the value with them would be within the bounds.
func TestAdmitOfSumsThatDoNotFit(t *testing.T) {
	up := pending(k, least, share(1, 0, most, most))
	checkAdmit(t, "nothing", up, 1, 0, all, api.OK)
	checkAdmit(t, "downwards", up, 1, -most, all, api.OK)
	checkAdmit(t, "one beyond most", up, 1, 1, all, api.ErrBound)
	checkAdmit(t, "most twice", up, 1, most, all, api.ErrBound)
	checkAdmit(t, "another one's", up, 2, most, all, api.OK)
	checkAdmit(t, "another one's, downwards", up, 2, -1, all, api.ErrBound)
	down := pending(k, most, share(1, least, least, 0))
	checkAdmit(t, "nothing", down, 1, 0, all, api.OK)
	checkAdmit(t, "upwards", down, 1, most, all, api.OK)
	checkAdmit(t, "one beyond least", down, 1, -1, all, api.ErrBound)
	checkAdmit(t, "least twice", down, 1, least, all, api.ErrBound)
	checkAdmit(t, "another one's, to the end", down, 2, least+1, all, api.OK)
	checkAdmit(t, "another one's, beyond it", down, 2, least, all, api.ErrBound)
	checkAdmit(t, "another one's, upwards", down, 2, 1, all, api.ErrBound)
}

// P10.3: ends beyond 64 bits leave whatever bounds, and do not go round into them.
func TestAdmitOfEndsThatDoNotFit(t *testing.T) {
	p := pending(k, 0, share(1, 0, most, most), share(2, -most, 0, 0))
	for _, b := range []api.Bounds{all, {Min: least, Max: -1}, {Min: 0, Max: most}} {
		checkAdmit(t, "above", p, 3, 1, b, api.ErrBound)
		checkAdmit(t, "far above", p, 3, most, b, api.ErrBound)
		checkAdmit(t, "far below", p, 3, least, b, api.ErrBound)
		checkAdmit(t, "below by two", p, 3, -2, b, api.ErrBound)
	}
	checkAdmit(t, "just least", p, 3, -1, all, api.OK)
	checkAdmit(t, "just least, of who has a share", p, 2, least, all, api.OK)
	checkAdmit(t, "beyond least, of who has a share", p, 1, least, all, api.OK)
	q := pending(k, -1, share(1, -most, 0, most), share(2, 0, 0, 0))
	checkAdmit(t, "below by the last number", q, 2, -1, all, api.ErrBound)
	checkAdmit(t, "up to most", q, 2, 1, all, api.OK)
	checkAdmit(t, "above by one", q, 2, 2, all, api.ErrBound)
}

// P10.3: of MaxShares shares those who have one may add, and nobody else.
func TestAdmitOfMaxShares(t *testing.T) {
	for n := 1; n <= api.MaxShares; n++ {
		p := pending(k, 1, shares(n)...)
		for i := range n {
			p.Shares[i].Txn = 10 * (i + 1)
		}
		for txn := 5; txn <= 10*n+5; txn += 5 {
			want := api.OK
			if txn%10 > 0 && n == api.MaxShares {
				want = api.ErrFull
			}
			checkAdmit(t, "a share", p, txn, 1, bounds, want)
			checkAdmit(t, "a share of nothing", p, txn, 0, bounds, want)
		}
	}
}

// P10.3: numbers that are no transaction's.
func TestAdmitOfNoTxn(t *testing.T) {
	for name, p := range goodPendings() {
		for _, no := range noTxns {
			checkAdmit(t, name, p, no, 0, all, api.ErrArg)
			checkAdmit(t, name, p, no, most, bounds, api.ErrArg)
		}
	}
}

// P10.3: a pending key that may not be, ahead of all else; one without shares is so too.
func TestAdmitOfWhatMayNotBe(t *testing.T) {
	for name, p := range badPendings() {
		for _, txn := range []int{0, 1, 2, 9, api.MaxTxn + 1} {
			for _, b := range []api.Bounds{bounds, all, {Min: 1, Max: 0}, {Min: 5, Max: 5}} {
				checkAdmit(t, name, p, txn, 1, b, api.ErrEscrow)
			}
		}
	}
	checkAdmit(t, "a zero one", api.Pending{}, 1, 1, all, api.ErrEscrow)
}

// P10.3: each error goes ahead of those behind it.
func TestAdmitErrorsInOrder(t *testing.T) {
	turned, far := api.Bounds{Min: 1, Max: 0}, int64(100)
	crowded := pending(k, 4, shares(api.MaxShares)...)
	for txn, want := range map[int]api.Errno{0: api.ErrArg, api.MaxTxn + 1: api.ErrArg, 9: api.ErrFull, 1: api.ErrBound, 8: api.ErrBound} {
		checkAdmit(t, "of bounds that are left", crowded, txn, far, bounds, want)
		checkAdmit(t, "of sums that do not fit", crowded, txn, most, bounds, want)
		checkAdmit(t, "of bounds that may not be", crowded, txn, far, turned, api.ErrArg)
		crowded.Shares[3].Lo = 1
		checkAdmit(t, "of what may not be", crowded, txn, far, turned, api.ErrEscrow)
		crowded.Shares[3].Lo = 0
	}
}

// P10.3: of all that may be, at the ends of 64 bits too, held against the words in numbers without end.
func TestAdmitByTheWords(t *testing.T) {
	some := []int64{least, least + 1, -most / 2, -5, -2, -1, 0, 1, 2, 5, most / 2, most - 1, most}
	met := map[api.Errno]int{}
	for name, p := range goodPendings() {
		for _, txn := range []int{1, 2, 3, 100} {
			for _, d := range some {
				for _, lo := range some {
					for _, hi := range some {
						b := api.Bounds{Min: lo, Max: hi}
						want := admitByWords(p, txn, d, b)
						checkAdmit(t, name, p, txn, d, b, want)
						met[want]++
					}
				}
			}
		}
	}
	for _, e := range []api.Errno{api.OK, api.ErrArg, api.ErrFull, api.ErrBound} {
		if met[e] < 300 {
			t.Fatalf("too few of one kind: %v", met)
		}
	}
}

// admitByWords is what Admit is to answer of a pending key that may be, in numbers without end.
func admitByWords(p api.Pending, txn int, d int64, b api.Bounds) api.Errno {
	lesser, _, greater := endsByWords(p)
	own, has := api.Share{}, false
	for _, s := range p.Shares {
		if s.Txn == txn {
			own, has = s, true
		}
	}
	sum := together(own.Sum, d)
	switch {
	case txn < 1 || txn > api.MaxTxn || b.Min > b.Max:
		return api.ErrArg
	case !has && len(p.Shares) == 8:
		return api.ErrFull
	case !sum.IsInt64():
		return api.ErrBound
	}
	if hi := together(own.Hi); sum.Cmp(hi) > 0 {
		greater.Sub(greater.Add(greater, sum), hi)
	}
	if lo := together(own.Lo); sum.Cmp(lo) < 0 {
		lesser.Sub(lesser.Add(lesser, sum), lo)
	}
	if lesser.Cmp(together(b.Min)) < 0 || greater.Cmp(together(b.Max)) > 0 {
		return api.ErrBound
	}
	return api.OK
}
