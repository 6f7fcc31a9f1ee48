package escrow_test

import (
	"math"
	"slices"
	"testing"

	"bursary/api"
	"bursary/escrow"
)

// The chapter's numbers.
func TestNumbers(t *testing.T) {
	if api.MaxTxn != 1<<30 || api.MaxShares != 8 || api.MaxPending != 60 || api.MaxTables != 3 {
		t.Fatal("the limits are not the chapter's")
	}
	if api.ErrEscrow != 200 || api.ErrArg != 2 || api.ErrNone != 4 || api.ErrFull != 6 || api.ErrBound != 152 || api.OK != 0 {
		t.Fatal("the errors are not the chapter's")
	}
}

// P10.1: escrows that may be.
func TestCheck(t *testing.T) {
	for name, e := range goodEscrows() {
		checkCheck(t, name, e, api.OK)
	}
}

// P10.1: escrows that may not be, for one sentence of the words each.
func TestCheckOfWhatMayNotBe(t *testing.T) {
	for name, e := range badEscrows() {
		checkCheck(t, name, e, api.ErrEscrow)
	}
}

// P10.1: escrows that may not be, for several sentences at once.
func TestCheckOfWhatMayNotBeAtAll(t *testing.T) {
	checkCheck(t, "a zero one", rows(api.Pending{}), api.ErrEscrow)
	checkCheck(t, "a zero share", rows(pending(k, 0, api.Share{})), api.ErrEscrow)
	checkCheck(t, "many zero ones", api.Escrow{Rows: make([]api.Pending, api.MaxPending+1)}, api.ErrEscrow)
	checkCheck(t, "all turned round", rows(pending(k, 0, share(2, 5, 0, -5), share(1, 5, 0, -5))), api.ErrEscrow)
	checkCheck(t, "both ends beyond 64 bits", rows(pending(k, most, share(1, least, 0, most), share(2, least, 0, most))), api.ErrEscrow)
}

// P10.1: of a share each choice of few numbers, held against the words.
func TestCheckOfShares(t *testing.T) {
	some := []int64{least, least + 1, -3, -2, -1, 0, 1, 2, 3, most - 1, most}
	for _, lo := range some {
		for _, sum := range some {
			for _, hi := range some {
				want := api.ErrEscrow
				if lo <= 0 && lo <= sum && hi >= 0 && hi >= sum {
					want = api.OK
				}
				checkCheck(t, "a share", rows(pending(k, 0, share(9, lo, sum, hi))), want)
			}
		}
	}
}

// P10.1: a share's Txn is from 1 to MaxTxn, whichever share it is.
func TestCheckOfTxns(t *testing.T) {
	for _, txn := range []int{1, 2, 9, 10, 255, 256, 1 << 16, 1<<29 + 1, api.MaxTxn - 1, api.MaxTxn} {
		checkCheck(t, "alone", rows(pending(k, 0, share(txn, 0, 0, 0))), api.OK)
		for _, other := range []int{1, 2, 9, 10, 255, 256, 1 << 16, 1<<29 + 1, api.MaxTxn - 1, api.MaxTxn} {
			want := api.ErrEscrow
			if txn < other {
				want = api.OK
			}
			checkCheck(t, "two", rows(pending(k, 0, share(txn, 0, 0, 0), share(other, 0, 0, 0))), want)
		}
	}
	for _, no := range noTxns {
		checkCheck(t, "alone", rows(pending(k, 0, share(no, 0, 0, 0))), api.ErrEscrow)
		checkCheck(t, "ahead", rows(pending(k, 0, share(no, 0, 0, 0), share(3, 0, 0, 0))), api.ErrEscrow)
		checkCheck(t, "behind", rows(pending(k, 0, share(3, 0, 0, 0), share(no, 0, 0, 0))), api.ErrEscrow)
	}
}

// P10.1: each two keys of few, in both orders: by Table, then by Id, none twice.
func TestCheckOfTheOrder(t *testing.T) {
	var all []api.Pending
	for table := range api.MaxTables {
		for _, id := range []uint16{0, 1, 9, 10, 255, 256, math.MaxUint16} {
			all = append(all, pending(key(table, id), 4, share(1, 0, 1, 1)))
		}
	}
	checkCheck(t, "all of them", rows(all...), api.OK)
	for i, a := range all {
		for j, b := range all {
			want := api.ErrEscrow
			if i < j {
				want = api.OK
			}
			checkCheck(t, "two keys", rows(a, b), want)
		}
	}
}

// P10.1: as many keys as there may be, and one more; as many shares, and one more.
func TestCheckOfMany(t *testing.T) {
	for n := range api.MaxPending + 4 {
		want := api.OK
		if n > api.MaxPending {
			want = api.ErrEscrow
		}
		checkCheck(t, "keys", many(n), want)
	}
	for n := range api.MaxShares + 4 {
		want := api.OK
		if n < 1 || n > api.MaxShares {
			want = api.ErrEscrow
		}
		checkCheck(t, "shares", rows(pending(k, 4, shares(n)...)), want)
	}
}

// P10.1: an end fits 64 bits till the last number of these, of one share and of as many as may be, which meet it together alone.
func TestCheckOfEnds(t *testing.T) {
	for n := 1; n <= api.MaxShares; n++ {
		up, down := pending(k, most-int64(n)), pending(k, least+int64(n))
		for i := range n {
			up.Shares = append(up.Shares, share(i+1, 0, 0, 1))
			down.Shares = append(down.Shares, share(i+1, -1, 0, 0))
		}
		for beyond := range int64(min(3, n+1)) {
			want := api.OK
			if beyond > 0 {
				want = api.ErrEscrow
			}
			up.Value, down.Value = most-int64(n)+beyond, least+int64(n)-beyond
			checkCheck(t, "the greater end", rows(up), want)
			checkCheck(t, "the lesser end", rows(down), want)
		}
	}
}

// R1: Check of very many keys, and of very many shares, ends.
func TestCheckOfVeryMany(t *testing.T) {
	if escrow.Check(api.Escrow{Rows: make([]api.Pending, 1<<20)}) != api.ErrEscrow {
		t.Fatal("a million zero keys may be")
	}
	p := pending(k, 0, slices.Repeat([]api.Share{share(1, least, 0, most)}, 1<<20)...)
	expect(t, "Check of a million shares", escrow.Check(rows(p)), api.ErrEscrow)
	expect(t, "Admit of a million shares", escrow.Admit(p, 1, 1, bounds), api.ErrEscrow)
	refuseEnds(t, "a million shares", p)
}
