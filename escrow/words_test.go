package escrow_test

import (
	"math/big"
	"slices"
	"testing"

	"bursary/api"
)

// together is numbers without end added together.
func together(parts ...int64) *big.Int {
	out := new(big.Int)
	for _, n := range parts {
		out.Add(out, big.NewInt(n))
	}
	return out
}

// endsByWords is a pending key's lesser end, its Value with all Sums, and its greater end, in numbers without end.
func endsByWords(p api.Pending) (*big.Int, *big.Int, *big.Int) {
	lo, sum, hi := []int64{p.Value}, []int64{p.Value}, []int64{p.Value}
	for _, s := range p.Shares {
		lo, sum, hi = append(lo, s.Lo), append(sum, s.Sum), append(hi, s.Hi)
	}
	return together(lo...), together(sum...), together(hi...)
}

// choices is Value and all numbers of a choice together, for each choice of a pending key of small numbers.
func choices(p api.Pending) []int64 {
	out := []int64{p.Value}
	for _, s := range p.Shares {
		var more []int64
		for _, sum := range out {
			for n := s.Lo; n <= s.Hi; n++ {
				more = append(more, sum+n)
			}
		}
		out = more
	}
	return out
}

// leavesByWords says whether one of these choices is below Min, or above Max.
func leavesByWords(all []int64, b api.Bounds) bool {
	return slices.ContainsFunc(all, func(n int64) bool { return n < b.Min || n > b.Max })
}

// widenedByWords is a pending key in which a transaction's share has a sum, and Hi and Lo reach it.
func widenedByWords(p api.Pending, txn int, d int64) api.Pending {
	s := api.Share{Txn: txn}
	out := api.Pending{Key: p.Key, Value: p.Value}
	for _, other := range p.Shares {
		if other.Txn == txn {
			s = other
		} else {
			out.Shares = append(out.Shares, other)
		}
	}
	s.Sum += d
	for s.Hi < s.Sum {
		s.Hi++
	}
	for s.Lo > s.Sum {
		s.Lo--
	}
	out.Shares = append(out.Shares, s)
	slices.SortFunc(out.Shares, func(a, b api.Share) int { return a.Txn - b.Txn })
	return out
}

// smallShares is all shares of a transaction with numbers from -n to n.
func smallShares(txn int, n int64) []api.Share {
	var out []api.Share
	for lo := -n; lo <= 0; lo++ {
		for hi := int64(0); hi <= n; hi++ {
			for sum := lo; sum <= hi; sum++ {
				out = append(out, share(txn, lo, sum, hi))
			}
		}
	}
	return out
}

// eachSmall tells all small pending keys: shares of one of the transactions 2 and 4, and of both.
func eachSmall(tell func(p api.Pending)) {
	one, two := smallShares(2, 2), smallShares(4, 2)
	for _, value := range []int64{-1, 3} {
		for _, s := range one {
			tell(pending(k, value, s))
			for _, other := range two {
				tell(pending(k, value, s, other))
			}
		}
		for _, s := range two {
			tell(pending(k, value, s))
		}
	}
}

// P10.2: of all small pending keys the ends are the least and the greatest of all choices.
func TestEndsOfAllSmall(t *testing.T) {
	eachSmall(func(p api.Pending) {
		now := p.Value
		for _, s := range p.Shares {
			now += s.Sum
		}
		all := choices(p)
		checkEnds(t, "small", p, slices.Min(all), now, slices.Max(all))
	})
}

// smallBounds is bounds around what small pending keys come to.
func smallBounds() []api.Bounds {
	out := []api.Bounds{all, {Min: 0, Max: most}, {Min: least, Max: 0}}
	for lo := int64(-6); lo <= 3; lo += 3 {
		for hi := lo; hi <= 8; hi += 2 {
			out = append(out, api.Bounds{Min: lo, Max: hi})
		}
	}
	return out
}

// P10.3: all small pending keys, of each transaction that has a share, and of some that have none, held against all choices.
func TestAdmitOfAllSmall(t *testing.T) {
	met := map[api.Errno]int{}
	some := smallBounds()
	eachSmall(func(p api.Pending) {
		for _, txn := range []int{1, 2, 3, 4} {
			for d := int64(-5); d <= 5; d++ {
				all := choices(widenedByWords(p, txn, d))
				for i, b := range some {
					if (int(d)+txn+i)%3 > 0 && len(p.Shares) > 1 {
						continue // a third of these is enough
					}
					want := api.OK
					if leavesByWords(all, b) {
						want = api.ErrBound
					}
					checkAdmit(t, "small", p, txn, d, b, want)
					met[want]++
				}
			}
		}
	})
	if met[api.OK] < 20000 || met[api.ErrBound] < 20000 {
		t.Fatalf("too few of one kind: %v", met)
	}
}

// P10.4: an Add to all small pending keys, alone and among others, lets be what the words let be, and comes to what they say.
func TestAddOfAllSmall(t *testing.T) {
	ahead, behind := pending(key(0, 3), 5, share(2, -1, 0, 1)), pending(key(1, 1), 5, share(4, -1, 0, 1))
	n := 0
	eachSmall(func(p api.Pending) {
		n++
		txn, d := n%4+1, int64(n%9-4)
		want := widenedByWords(p, txn, d)
		e := rows(ahead, p, behind)
		for _, b := range []api.Bounds{{Min: -4, Max: 6}, {Min: -3, Max: 4}, {Min: -20, Max: 20}} {
			if leavesByWords(choices(want), b) {
				refuseAdd(t, "small", e, k, adding(txn, d, 0, b), api.ErrBound)
			} else {
				checkAdd(t, e, k, adding(txn, d, 99, b), rows(ahead, want, behind))
				checkAdd(t, rows(p), k, adding(txn, d, -99, b), rows(want))
			}
		}
	})
}

// P10.5: Back of each number of all small pending keys.
func TestBackOfAllSmall(t *testing.T) {
	eachSmall(func(p api.Pending) {
		for i, s := range p.Shares {
			for d := int64(-5); d <= 5; d++ {
				if left := s.Sum - d; left < s.Lo || left > s.Hi {
					refuseBack(t, "small", rows(p), k, s.Txn, d, api.ErrArg)
					continue
				}
				want := copied(rows(p))
				want.Rows[0].Shares[i].Sum -= d
				checkBack(t, rows(p), k, s.Txn, d, want)
			}
		}
		refuseBack(t, "no share", rows(p), k, 3, 0, api.ErrNone)
	})
}

// P10.5: Over of each one of all small pending keys.
func TestOverOfAllSmall(t *testing.T) {
	other := pending(key(1, 1), 5, share(3, -1, 0, 1))
	eachSmall(func(p api.Pending) {
		for _, txn := range []int{1, 2, 4} {
			for _, commits := range []bool{false, true} {
				left := api.Pending{Key: p.Key, Value: p.Value}
				for _, s := range p.Shares {
					if s.Txn != txn {
						left.Shares = append(left.Shares, s)
					} else if commits {
						left.Value += s.Sum
					}
				}
				want := rows(left, other)
				if len(left.Shares) == 0 {
					want = rows(other)
				}
				checkOver(t, rows(p, other), txn, commits, want)
			}
		}
	})
}
