package escrow_test

import (
	"slices"
	"testing"

	"bursary/api"
)

// P10.2: each key that is pending, in escrows of all lengths.
func TestFind(t *testing.T) {
	for name, e := range goodEscrows() {
		for _, p := range e.Rows {
			checkFind(t, name, e, p.Key, p)
		}
	}
	for n := range api.MaxPending + 1 {
		e := many(n)
		for _, p := range e.Rows {
			checkFind(t, "many", e, p.Key, p)
		}
	}
}

// P10.2: keys that are not pending: beside those that are, of other tables, and of none.
func TestFindOfNone(t *testing.T) {
	for name, e := range goodEscrows() {
		pendingThere := func(k api.Key) bool {
			return slices.ContainsFunc(e.Rows, func(p api.Pending) bool { return p.Key == k })
		}
		asked := []api.Key{{}, key(2, 65535), key(0, 8), key(1, 7)}
		for _, p := range e.Rows {
			asked = append(asked, key(p.Key.Table, p.Key.Id-1), key(p.Key.Table, p.Key.Id+1), key(p.Key.Table, p.Key.Id^256))
			asked = append(asked, key(p.Key.Table+1, p.Key.Id), key(p.Key.Table-1, p.Key.Id), key(p.Key.Table+1<<32, p.Key.Id))
		}
		for _, no := range noTables {
			asked = append(asked, key(no, 7))
		}
		for _, k := range asked {
			if !pendingThere(k) {
				findNone(t, name, e, k)
			}
		}
	}
}

// P10.2: of a key that stands there several times, the first one, and whatever the escrow is else.
func TestFindTheFirst(t *testing.T) {
	a, b, c := pending(k, 4, share(1, 0, 1, 1)), pending(k, 5, share(2, 0, 1, 1)), pending(k, 6)
	other, last := pending(key(0, 1), 7, share(3, 0, 0, 0)), pending(key(2, 9), 8, share(4, 0, 0, 0))
	checkFind(t, "twice", rows(a, b), k, a)
	checkFind(t, "twice, turned round", rows(b, a), k, b)
	checkFind(t, "behind another one", rows(other, c, b, a), k, c)
	checkFind(t, "others between", rows(last, b, other, a, other, c), k, b)
	checkFind(t, "falling", rows(last, c, other), other.Key, other)
	checkFind(t, "falling", rows(last, c, other), last.Key, last)
	checkFind(t, "the same ones", rows(a, a, a, a, a), k, a)
	findNone(t, "out of order", rows(last, b, other, a), key(0, 8))
	for n := 1; n < 40; n++ {
		e := rows(slices.Repeat([]api.Pending{last, other}, n)...)
		e.Rows = append(e.Rows, b, a, c)
		checkFind(t, "far behind", e, k, b)
	}
}

// P10.2: escrows that may not be: their first pending key of each Key, whatever it is.
func TestFindOfWhatMayNotBe(t *testing.T) {
	for name, e := range badEscrows() {
		for i, p := range e.Rows {
			if slices.IndexFunc(e.Rows, func(q api.Pending) bool { return q.Key == p.Key }) == i {
				checkFind(t, name, e, p.Key, p)
			}
		}
		findNone(t, name, e, key(2, 4))
	}
	checkFind(t, "a zero one", rows(api.Pending{}), api.Key{}, api.Pending{})
	for _, no := range noTables {
		p := pending(key(no, 3), 1)
		checkFind(t, "no table", rows(markPending, p), p.Key, p)
	}
}

// P10.2: the ends of one share, and of several.
func TestEnds(t *testing.T) {
	checkEnds(t, "noughts", pending(k, 0, share(1, 0, 0, 0)), 0, 0, 0)
	checkEnds(t, "noughts, and a Value", pending(k, -8, share(1, 0, 0, 0)), -8, -8, -8)
	checkEnds(t, "one", pending(k, 4, share(1, -3, 2, 6)), 1, 6, 10)
	checkEnds(t, "one below 0", pending(k, 4, share(1, -3, -2, 6)), 1, 2, 10)
	checkEnds(t, "one, Sum is Hi", pending(k, 4, share(1, 0, 5, 5)), 4, 9, 9)
	checkEnds(t, "one, Sum is Lo", pending(k, 4, share(1, -5, -5, 0)), -1, -1, 4)
	checkEnds(t, "two", pending(k, 4, share(1, -3, 2, 6), share(2, -10, -10, 100)), -9, -4, 110)
	checkEnds(t, "three", pending(k, -4, share(1, -1, 0, 2), share(2, -10, 5, 20), share(3, -100, 50, 200)), -115, 51, 218)
	checkEnds(t, "as many as may be", pending(k, 4, shares(api.MaxShares)...), 4, 12, 12)
	for i := range api.MaxShares {
		p := pending(k, 4, shares(api.MaxShares)...)
		p.Shares[i] = share(i+1, -1000, -20, 300)
		checkEnds(t, "each of as many as may be", p, -996, 4+7-20, 4+7+300)
	}
}

// P10.2: at the ends of 64 bits.
func TestEndsOf64Bits(t *testing.T) {
	checkEnds(t, "the widest", pending(k, 0, share(1, least, 7, most)), least, 7, most)
	checkEnds(t, "the widest, Sum is least", pending(k, 0, share(1, least, least, most)), least, least, most)
	checkEnds(t, "the widest, Sum is most", pending(k, 0, share(1, least, most, most)), least, most, most)
	checkEnds(t, "Value is least", pending(k, least, share(1, 0, 1, most)), least, least+1, -1)
	checkEnds(t, "Value is most", pending(k, most, share(1, least, -1, 0)), -1, most-1, most)
	checkEnds(t, "two that meet the ends", pending(k, -1, share(1, -most, 3, most), share(2, 0, 0, 1)), least, 2, most)
	refuseEnds(t, "one beyond the greater", pending(k, 0, share(1, -most, 3, most), share(2, 0, 0, 1)))
	refuseEnds(t, "one beyond the lesser", pending(k, -2, share(1, -most, 3, most), share(2, 0, 0, 1)))
}

// P10.2: a part of the way goes beyond 64 bits, and the whole does not.
func TestEndsBeyond64BitsOnTheWay(t *testing.T) {
	checkEnds(t, "two Hi over most", pending(k, least, share(1, 0, most, most), share(2, 0, most, most)), least, most-1, most-1)
	checkEnds(t, "two Lo over least", pending(k, most, share(1, least, least, 0), share(2, -most, -most, 0)), least, least, most)
	checkEnds(t, "Sums over most and back", pending(k, 0, share(1, 0, most, most), share(2, -5, -5, 0)), -5, most-5, most)
	checkEnds(t, "Value and the first Sum over most", pending(k, most-2, share(1, -9, 2, 2), share(2, -9, -9, 0)), most-20, most-9, most)
	checkEnds(t, "Sums over least and back", pending(k, -1, share(1, -most, -most, 0), share(2, 0, 5, 5)), least, least+5, 4)
	refuseEnds(t, "three Hi", pending(k, least, share(1, 0, most, most), share(2, 0, most, most), share(3, 0, 0, 2)))
	checkEnds(t, "three Hi, one less", pending(k, least, share(1, 0, most, most), share(2, 0, most, most), share(3, 0, 0, 1)), least, most-1, most)
}

// P10.2: a pending key that may not be.
func TestEndsOfWhatMayNotBe(t *testing.T) {
	for name, p := range badPendings() {
		refuseEnds(t, name, p)
	}
	refuseEnds(t, "a zero one", api.Pending{})
}

// P10.2: of all that may be, the ends are those of the words.
func TestEndsByTheWords(t *testing.T) {
	for name, p := range goodPendings() {
		lesser, now, greater := endsByWords(p)
		checkEnds(t, name, p, lesser.Int64(), now.Int64(), greater.Int64())
	}
}
