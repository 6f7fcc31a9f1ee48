package escrow_test

import (
	"fmt"
	"slices"
	"testing"

	"bursary/api"
	"bursary/escrow"
)

// overwriteShares puts shares that may not be all over a list, and over the room behind its end.
func overwriteShares(l []api.Share) {
	for i := range l[:cap(l)] {
		l[:cap(l)][i] = share(-7, 7, 7, -7)
	}
}

// overwrite does so with all lists of an escrow.
func overwrite(e api.Escrow) {
	l := e.Rows[:cap(e.Rows)]
	for i := range l {
		overwriteShares(l[i].Shares)
		l[i] = pending(key(-7, 7), -7)
	}
}

// everything is what every call answers of an escrow, a key, a transaction and a number.
type everything struct {
	check, ends, admit, e1, e2, e3, e4 api.Errno
	lesser, now, greater               int64
	there, same                        bool
	found                              api.Pending
	added, back, commits, aborts       api.Escrow
}

// askAll asks every call.
func askAll(e api.Escrow, k api.Key, txn int, d int64) everything {
	var a everything
	a.check, a.same = escrow.Check(e), escrow.Same(e, e)
	a.found, a.there = escrow.Find(e, k)
	a.lesser, a.now, a.greater, a.ends = escrow.Ends(a.found)
	a.admit = escrow.Admit(a.found, txn, d, all)
	a.added, a.e1 = escrow.Add(e, k, adding(txn, d, 4, all))
	a.back, a.e2 = escrow.Back(e, k, txn, d)
	a.commits, a.e3 = escrow.Over(e, txn, true)
	a.aborts, a.e4 = escrow.Over(e, txn, false)
	return a
}

// keysOf is some keys that are pending, and one that is not.
func keysOf(e api.Escrow) []api.Key {
	out := []api.Key{key(0, 40), key(2, 3)}
	for i, p := range e.Rows {
		if i%20 == 0 || i == len(e.Rows)-1 {
			out = append(out, p.Key)
		}
	}
	return out
}

// P10.6, R3: what is answered is new memory: the escrow that was handed in stays as it is when that is overwritten, and it stays when the escrow is.
func TestAnswersAreNewMemory(t *testing.T) {
	for name, e := range goodEscrows() {
		for _, k := range keysOf(e) {
			for _, txn := range []int{1, 2, 5, 7} {
				in := roomy(e)
				a := askAll(in, k, txn, 0)
				want := fmt.Sprint(a)
				overwrite(in)
				if got := fmt.Sprint(a); got != want {
					t.Fatalf("%s: an answer to %v, %d has changed with what was handed in: %s, want %s", name, k, txn, got, want)
				}
				in = roomy(e)
				a = askAll(in, k, txn, 0)
				overwriteShares(a.found.Shares)
				checkUntouched(t, name, in, e)
				for _, out := range []api.Escrow{a.added, a.back, a.commits, a.aborts} {
					overwrite(out)
					checkUntouched(t, name, in, e)
				}
			}
		}
	}
}

// R3: no two lists of one answer share memory.
func TestListsOfOneAnswerShareNothing(t *testing.T) {
	e := full()
	answers := func() []api.Escrow {
		a := askAll(e, e.Rows[3].Key, 5, 0)
		return []api.Escrow{a.added, a.back, a.commits, a.aborts}
	}
	for n, want := range answers() {
		for i := range want.Rows {
			got := answers()[n]
			overwriteShares(got.Rows[i].Shares)
			for j, p := range got.Rows {
				if j != i && !samePending(p, want.Rows[j]) {
					t.Fatalf("%v has changed with %v", want.Rows[j], want.Rows[i])
				}
			}
		}
	}
}

// R3: shares that are shared by two keys of what is handed in are not changed in one of them with the other.
func TestSharedSharesHandedIn(t *testing.T) {
	one := slices.Repeat([]api.Share{share(5, -3, 2, 4)}, 1)
	e := rows(pending(key(0, 1), 4, one...), pending(key(0, 2), 4, one...), pending(key(0, 3), 4, one...))
	own := share(5, -3, 2, 4)
	checkAdd(t, e, key(0, 2), adding(5, 1, 4, bounds), rows(pending(key(0, 1), 4, own), pending(key(0, 2), 4, share(5, -3, 3, 4)), pending(key(0, 3), 4, own)))
	checkBack(t, e, key(0, 2), 5, 1, rows(pending(key(0, 1), 4, own), pending(key(0, 2), 4, share(5, -3, 1, 4)), pending(key(0, 3), 4, own)))
	checkOver(t, e, 5, true, rows())
	two := []api.Share{own, share(6, 0, 1, 1)}
	e = rows(pending(key(0, 1), 4, two...), pending(key(0, 2), 4, two...))
	checkOver(t, e, 5, true, rows(pending(key(0, 1), 6, two[1]), pending(key(0, 2), 6, two[1])))
}

// R5: the same call answers the same, once more and behind others, and what is answered to others stays.
func TestAnswersStay(t *testing.T) {
	met := map[string]string{}
	var kept []everything
	var texts []string
	for range 3 {
		for name, e := range goodEscrows() {
			for _, k := range keysOf(e) {
				for _, txn := range []int{0, 1, 2, 9} {
					a := askAll(e, k, txn, 1)
					text, call := fmt.Sprint(a), fmt.Sprint(name, k, txn)
					if was, there := met[call]; there && was != text {
						t.Fatalf("%s: %s, and once more %s", call, was, text)
					}
					met[call] = text
					kept, texts = append(kept, a), append(texts, text)
				}
			}
		}
		for name, e := range badEscrows() {
			if a := askAll(e, k, 1, 1); a.check != api.ErrEscrow || a.e1 != api.ErrEscrow || a.e2 != api.ErrEscrow || a.e3 != api.ErrEscrow || a.e4 != api.ErrEscrow {
				t.Fatalf("%s: %v", name, a)
			}
		}
	}
	for i, a := range kept {
		if got := fmt.Sprint(a); got != texts[i] {
			t.Fatalf("an answer has changed behind others: %s, want %s", got, texts[i])
		}
	}
}
