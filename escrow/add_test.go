package escrow_test

import (
	"math"
	"slices"
	"testing"

	"bursary/api"
	"bursary/escrow"
)

// P10.4: to a key that is not pending: Now is its Value, and the one share reaches from 0 to the sum.
func TestAddToANewKey(t *testing.T) {
	for _, q := range []struct {
		by   int64
		want api.Share
	}{{5, share(1, 0, 5, 5)}, {-4, share(1, -4, -4, 0)}, {0, share(1, 0, 0, 0)}, {6, share(1, 0, 6, 6)}} {
		checkAdd(t, rows(), k, adding(1, q.by, 4, bounds), rows(pending(k, 4, q.want)))
	}
	checkAdd(t, rows(), key(0, 0), adding(api.MaxTxn, 0, 0, bounds), rows(pending(key(0, 0), 0, share(api.MaxTxn, 0, 0, 0))))
	checkAdd(t, rows(), key(2, math.MaxUint16), adding(1, most, least, all), rows(pending(key(2, math.MaxUint16), least, share(1, 0, most, most))))
	checkAdd(t, rows(), k, adding(1, least, most, all), rows(pending(k, most, share(1, least, least, 0))))
	checkAdd(t, rows(), k, adding(1, least, 0, all), rows(pending(k, 0, share(1, least, least, 0))))
	refuseAdd(t, "one beyond Max", rows(), k, adding(1, 7, 4, bounds), api.ErrBound)
	refuseAdd(t, "one beyond Min", rows(), k, adding(1, -5, 4, bounds), api.ErrBound)
	refuseAdd(t, "Now beyond Max", rows(), k, adding(1, 0, 11, bounds), api.ErrBound)
	refuseAdd(t, "Now beyond Max, By leads back", rows(), k, adding(1, -1, 11, bounds), api.ErrBound)
	refuseAdd(t, "Now beyond Min, By leads back", rows(), k, adding(1, 1, -1, bounds), api.ErrBound)
	refuseAdd(t, "beyond 64 bits", rows(), k, adding(1, most, 1, all), api.ErrBound)
	refuseAdd(t, "beyond 64 bits, below", rows(), k, adding(1, least, -1, all), api.ErrBound)
}

// P10.4: new keys come among the others in order.
func TestAddAmongOthers(t *testing.T) {
	for _, n := range []int{1, 2, 7, api.MaxPending - 1} {
		e := many(n)
		asked := []api.Key{key(0, 0), key(0, math.MaxUint16), key(1, 0), key(1, math.MaxUint16), key(2, 0), key(2, math.MaxUint16)}
		for _, p := range e.Rows {
			asked = append(asked, key(p.Key.Table, p.Key.Id-1), key(p.Key.Table, p.Key.Id+1))
		}
		for _, k := range asked {
			want := rows(append(copied(e).Rows, pending(k, 4, share(9, 0, 2, 2)))...)
			slices.SortFunc(want.Rows, func(a, b api.Pending) int {
				return a.Key.Table<<16 + int(a.Key.Id) - b.Key.Table<<16 - int(b.Key.Id)
			})
			checkAdd(t, e, k, adding(9, 2, 4, bounds), want)
		}
	}
}

// P10.4: to keys that are pending, each of some escrow: Now does not count, nothing else changes.
func TestAddToAPendingKey(t *testing.T) {
	for _, n := range []int{1, 2, 7, api.MaxPending} {
		e := many(n)
		for i, p := range e.Rows {
			for _, now := range []int64{0, p.Value, 1000, most, least} {
				want := copied(e)
				want.Rows[i].Shares = []api.Share{share(4, 0, 3, 3), p.Shares[0]}
				checkAdd(t, e, p.Key, adding(4, 3, now, all), want)
				want = copied(e)
				want.Rows[i].Shares = []api.Share{p.Shares[0], share(6, -3, -3, 0)}
				checkAdd(t, e, p.Key, adding(6, -3, now, all), want)
				own := p.Shares[0]
				want = copied(e)
				want.Rows[i].Shares[0] = share(5, -1, own.Sum+7, own.Sum+7)
				checkAdd(t, e, p.Key, adding(5, 7, now, all), want)
			}
		}
	}
}

// P10.4: Hi and Lo reach each sum, one behind the other, and never less.
func TestAddReachesEachSum(t *testing.T) {
	e := rows()
	for _, q := range []struct {
		by   int64
		want api.Share
	}{
		{3, share(2, 0, 3, 3)}, {-1, share(2, 0, 2, 3)}, {1, share(2, 0, 3, 3)}, {1, share(2, 0, 4, 4)}, {-5, share(2, -1, -1, 4)},
		{0, share(2, -1, -1, 4)}, {-2, share(2, -3, -3, 4)}, {1, share(2, -3, -2, 4)}, {8, share(2, -3, 6, 6)}, {-9, share(2, -3, -3, 6)}, {-1, share(2, -4, -4, 6)},
	} {
		want := rows(pending(k, 4, q.want))
		checkAdd(t, e, k, adding(2, q.by, 4, bounds), want)
		e = want
	}
	refuseAdd(t, "one more upwards", e, k, adding(2, 11, 4, bounds), api.ErrBound)
	refuseAdd(t, "one more downwards", e, k, adding(2, -1, 4, bounds), api.ErrBound)
	refuseAdd(t, "another one", e, k, adding(1, 1, 4, bounds), api.ErrBound)
	checkAdd(t, e, k, adding(1, 0, 4, bounds), rows(pending(k, 4, share(1, 0, 0, 0), share(2, -4, -4, 6))))
}

// P10.4: shares come in order, whichever transaction is first, till there are MaxShares.
func TestAddTillMaxShares(t *testing.T) {
	for _, step := range []int{1, 3, 5, 7} {
		e, want := rows(), pending(k, 0)
		for i := range api.MaxShares {
			txn := 10 * (i*step%api.MaxShares + 1)
			want.Shares = append(slices.Clone(want.Shares), share(txn, 0, 1, 1))
			slices.SortFunc(want.Shares, func(a, b api.Share) int { return a.Txn - b.Txn })
			checkAdd(t, e, k, adding(txn, 1, 0, bounds), rows(want))
			e = rows(want)
		}
		for txn := 5; txn <= 85; txn += 10 {
			refuseAdd(t, "one more", e, k, adding(txn, 1, 0, bounds), api.ErrFull)
			checkAdd(t, e, key(0, 8), adding(txn, 1, 0, bounds), rows(want, pending(key(0, 8), 0, share(txn, 0, 1, 1))))
		}
		for i, s := range want.Shares {
			more := copied(e)
			more.Rows[0].Shares[i] = share(s.Txn, 0, 2, 2)
			checkAdd(t, e, k, adding(s.Txn, 1, 0, bounds), more)
		}
	}
}

// P10.4: keys come till there are MaxPending.
func TestAddTillMaxPending(t *testing.T) {
	e := rows()
	for n, p := range many(api.MaxPending).Rows {
		want := rows(append(copied(e).Rows, pending(p.Key, 4, share(5, 0, 1, 1)))...)
		checkAdd(t, e, p.Key, adding(5, 1, 4, bounds), want)
		e = want
		if len(e.Rows) != n+1 {
			t.Fatalf("%d keys", len(e.Rows))
		}
	}
	for _, k := range []api.Key{{}, key(0, 6), key(1, 0), key(2, math.MaxUint16)} {
		refuseAdd(t, "one more", e, k, adding(5, 1, 4, bounds), api.ErrFull)
		refuseAdd(t, "one more, of another one", e, k, adding(6, 0, 4, bounds), api.ErrFull)
	}
	for i, p := range e.Rows {
		want := copied(e)
		want.Rows[i].Shares = append(want.Rows[i].Shares, share(6, 0, 0, 0))
		checkAdd(t, e, p.Key, adding(6, 0, 11, bounds), want)
	}
}

// P10.4: tables that may not be, of whatever escrow that may be.
func TestAddOfNoTable(t *testing.T) {
	for name, e := range goodEscrows() {
		for _, no := range noTables {
			refuseAdd(t, name, e, key(no, 7), adding(1, 1, 4, bounds), api.ErrArg)
		}
	}
	for table := range api.MaxTables {
		checkAdd(t, rows(), key(table, 7), adding(1, 1, 4, bounds), rows(pending(key(table, 7), 4, share(1, 0, 1, 1))))
	}
}

// P10.4: an escrow that may not be, ahead of all else.
func TestAddOfWhatMayNotBe(t *testing.T) {
	for name, e := range badEscrows() {
		for _, k := range []api.Key{k, key(0, 1), key(1, 9), key(-1, 0), key(3, 0)} {
			for _, a := range []api.Adding{adding(1, 0, 4, all), adding(0, 0, 4, all), adding(1, 1, 4, api.Bounds{Min: 1}), adding(1, 100, 4, bounds)} {
				refuseAdd(t, name, e, k, a, api.ErrEscrow)
			}
		}
	}
}

// P10.4: of a key that is pending Add answers what Admit answers; of one that is not, what it would answer.
func TestAddAsAdmit(t *testing.T) {
	some := []int64{least, -9, -5, -2, -1, 0, 1, 2, 5, 9, most}
	met := map[api.Errno]int{}
	for name, p := range goodPendings() {
		for _, txn := range []int{0, 1, 2, 3, 9, api.MaxTxn + 1} {
			for _, by := range some {
				for _, b := range []api.Bounds{bounds, all, {Min: 1, Max: 0}, {Min: -3, Max: 8}, {Min: 4, Max: 4}} {
					want := escrow.Admit(p, txn, by, b)
					got, err := escrow.Add(rows(p), p.Key, adding(txn, by, 4, b))
					met[err]++
					if err != want || (len(got.Rows) > 0) != (want == api.OK) {
						t.Fatalf("%s: Add(%v, %d, %d, %v): %v, error %d, want %d", name, p, txn, by, b, got, err, want)
					}
					fresh := admitByWords(pending(k, p.Value), txn, by, b)
					if _, err := escrow.Add(rows(), k, adding(txn, by, p.Value, b)); err != fresh {
						t.Fatalf("%s: Add(%d, %d, %d, %v): error %d, want %d", name, txn, by, p.Value, b, err, fresh)
					}
				}
			}
		}
	}
	if met[api.OK] < 100 || met[api.ErrArg] < 100 || met[api.ErrFull] < 20 || met[api.ErrBound] < 100 {
		t.Fatalf("too few of one kind: %v", met)
	}
}

// P10.4: each error goes ahead of those behind it, and nothing stands beside any.
func TestAddErrorsInOrder(t *testing.T) {
	good, bad := full(), full()
	bad.Rows[59].Shares[7].Hi = 0
	there, other := good.Rows[30].Key, key(2, math.MaxUint16)
	turned := api.Bounds{Min: 1, Max: 0}
	for _, q := range []struct {
		name string
		e    api.Escrow
		k    api.Key
		a    api.Adding
		want api.Errno
	}{
		{"an escrow that may not be, ahead of a table", bad, key(3, 1), adding(0, most, most, turned), api.ErrEscrow},
		{"an escrow that may not be, ahead of room", bad, other, adding(0, most, most, turned), api.ErrEscrow},
		{"an escrow that may not be, ahead of a txn", bad, there, adding(0, most, most, turned), api.ErrEscrow},
		{"an escrow that may not be, ahead of bounds", bad, there, adding(1, most, most, bounds), api.ErrEscrow},
		{"a table, ahead of room", good, key(3, 1), adding(0, most, most, turned), api.ErrArg},
		{"a table, ahead of bounds", good, key(-1, 1), adding(1, most, most, bounds), api.ErrArg},
		{"room, ahead of a txn", good, other, adding(0, most, most, bounds), api.ErrFull},
		{"room, ahead of Min above Max", good, other, adding(1, most, most, turned), api.ErrFull},
		{"room, ahead of bounds", good, other, adding(1, most, most, bounds), api.ErrFull},
		{"a txn, ahead of shares", good, there, adding(0, most, most, bounds), api.ErrArg},
		{"a txn too great, ahead of shares", good, there, adding(api.MaxTxn+1, most, most, bounds), api.ErrArg},
		{"Min above Max, ahead of shares", good, there, adding(9, most, most, turned), api.ErrArg},
		{"Min above Max, ahead of bounds", good, there, adding(1, most, most, turned), api.ErrArg},
		{"shares, ahead of bounds", good, there, adding(9, 100, 4, bounds), api.ErrFull},
		{"sums that do not fit", good, there, adding(1, most, 4, all), api.ErrBound},
		{"bounds", good, there, adding(1, 100, 4, bounds), api.ErrBound},
	} {
		refuseAdd(t, q.name, q.e, q.k, q.a, q.want)
	}
}
