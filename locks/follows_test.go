package locks_test

import (
	"fmt"
	"slices"
	"testing"

	"bursary/api"
	"bursary/locks"
	"bursary/mode"
)

// call is one of the calls that change locks: an Ask, a Release, a Leave.
type call struct {
	kind, txn int
	res       api.Res
	mode      int
}

const (
	asks = iota
	releases
	leaves
)

// do is the locks behind a call (those ahead of it, behind an error), what an Ask came to, who was granted, and the error.
func (c call) do(l api.Locks) (api.Locks, int, []int, api.Errno) {
	out, got, who, err := l, 0, []int(nil), api.OK
	switch c.kind {
	case asks:
		out, got, err = locks.Ask(l, c.txn, c.res, c.mode)
	case releases:
		out, who, err = locks.Release(l, c.txn)
	case leaves:
		out, who, err = locks.Leave(l, c.txn)
	}
	if err != api.OK {
		return l, got, who, err
	}
	return out, got, who, err
}

// model is what the words say of the same call.
func (c call) model(m *model) (int, []int, api.Errno) {
	switch c.kind {
	case asks:
		got, err := m.ask(c.txn, c.res, c.mode)
		return got, nil, err
	case releases:
		return 0, m.release(c.txn), api.OK
	}
	if _, _, waiting := m.waitsFor(c.txn); !waiting {
		return 0, nil, api.ErrNone
	}
	return 0, m.leave(c.txn), api.OK
}

// callsOf are all calls of so many transactions, of these things.
func callsOf(txns int, rs ...api.Res) []call {
	var out []call
	for i := range txns {
		txn := i + 1
		for _, r := range rs {
			for _, m := range modesOf(r) {
				out = append(out, call{kind: asks, txn: txn, res: r, mode: m})
			}
		}
		out = append(out, call{kind: releases, txn: txn}, call{kind: leaves, txn: txn})
	}
	return out
}

// check holds all that is told of locks against a model of them.
func check(t *testing.T, l api.Locks, m *model, txns int) {
	t.Helper()
	checkLocks(t, "the locks", l, m.locks())
	if !mayBeByWords(l) {
		t.Fatalf("%v may not be", l)
	}
	in := roomy(l)
	for txn := range txns + 2 {
		var held []api.Lock
		for _, r := range m.locked() {
			own := m.holds[r][txn]
			if got := locks.Mode(in, txn, r); got != own {
				t.Fatalf("%v: Mode(%d, %v): %d, want %d", l, txn, r, got, own)
			}
			if own != none {
				held = append(held, api.Lock{Res: r, Mode: own})
			}
		}
		if got := locks.Holds(in, txn); !slices.Equal(got, held) {
			t.Fatalf("%v: Holds(%d): %v, want %v", l, txn, got, held)
		}
		if got, want := locks.Blockers(in, txn), m.blockers(txn); !slices.Equal(got, want) {
			t.Fatalf("%v: Blockers(%d): %v, want %v", l, txn, got, want)
		}
		wantRes, at, waiting := m.waitsFor(txn)
		want := 0
		if waiting {
			want = m.waits[wantRes][at].Mode
		}
		if r, got, there := locks.Waits(in, txn); r != wantRes || got != want || there != waiting {
			t.Fatalf("%v: Waits(%d): %v, %d, %t, want %v, %d, %t", l, txn, r, got, there, wantRes, want, waiting)
		}
	}
	checkUntouched(t, "what is told", in, l)
}

// eachReached tells all locks to which rows of these calls lead, none twice, and holds what each call answers there against what the words say; and how many they are.
func eachReached(t *testing.T, calls []call, tell func(l api.Locks)) int {
	t.Helper()
	seen := map[string]bool{fmt.Sprint(api.Locks{}): true}
	work := []api.Locks{{}}
	for n := 0; n < len(work); n++ {
		l := work[n]
		tell(l)
		for _, c := range calls {
			out := checkCall(t, c, l)
			if text := fmt.Sprint(out); !seen[text] {
				seen[text] = true
				work = append(work, out)
			}
		}
	}
	return len(work)
}

// checkCall is the locks behind a call, whose answer is held against what the words say.
func checkCall(t *testing.T, c call, l api.Locks) api.Locks {
	t.Helper()
	in := roomy(l)
	m := modelOf(l)
	out, got, who, err := c.do(in)
	wantGot, wantWho, wantErr := c.model(m)
	if got != wantGot || !slices.Equal(who, wantWho) || err != wantErr {
		t.Fatalf("%v: %v: %d, %v, error %d, want %d, %v, error %d", l, c, got, who, err, wantGot, wantWho, wantErr)
	}
	checkUntouched(t, "a call", in, l)
	if err != api.OK {
		return l
	}
	if want := m.locks(); !same(out, want) {
		t.Fatalf("%v: %v: %v, want %v", l, c, out, want)
	}
	return out
}

// P8.1 to P8.5: all locks of a key to which three or four transactions come, of a table to which three do, and of a table and a key to which two do: each call of each of these, and all that is told of them.
func TestAllThatIsReached(t *testing.T) {
	for _, some := range []struct {
		txns  int
		rs    []api.Res
		least int
	}{
		{3, []api.Res{k}, 300},
		{4, []api.Res{k}, 4000},
		{3, []api.Res{tab}, 4000},
		{2, []api.Res{tab, k}, 2000},
	} {
		n := eachReached(t, callsOf(some.txns, some.rs...), func(l api.Locks) {
			check(t, l, modelOf(l), some.txns)
		})
		if n < some.least {
			t.Fatalf("of %v: %d were reached", some.rs, n)
		}
	}
}

// dice are numbers that hang on how many were thrown alone.
type dice uint32

// throw is a number from 0 on and below n.
func (d *dice) throw(n int) int {
	*d = *d*1664525 + 1013904223
	return int(*d>>16) % n
}

// row is a row of calls by chance, and the locks ahead of each and behind it.
func row(t *testing.T, seed, n, txns int, rs []api.Res, tell func(c call, before, after api.Locks)) {
	t.Helper()
	d := dice(seed)
	var l api.Locks
	for range n {
		c := call{kind: asks, txn: d.throw(txns) + 1, res: rs[d.throw(len(rs))]}
		c.mode = modesOf(c.res)[d.throw(len(modesOf(c.res)))]
		if k := d.throw(14); k <= leaves {
			c.kind = k
		}
		out := checkCall(t, c, l)
		tell(c, l, out)
		l = out
	}
}

// rows are rows of calls of many transactions, of few and of many things.
func rows(t *testing.T, tell func(c call, before, after api.Locks)) {
	t.Helper()
	for seed := range 8 {
		row(t, seed, 1500, 8, []api.Res{tab, key(0, 1), k, table(1), key(1, 1), key(2, 65535)}, tell)
		row(t, seed, 800, 9, []api.Res{tab, k}, tell)
		row(t, seed, 400, 5, []api.Res{table(2)}, tell)
	}
}

// P8.6: whatever was called, the locks may be, and all that is told of them is what the words say.
func TestWhatIsLeftMayBe(t *testing.T) {
	rows(t, func(_ call, _, after api.Locks) {
		check(t, after, modelOf(after), 9)
	})
}

// P8.6: holders always go together.
func TestHoldersGoTogether(t *testing.T) {
	most := 0
	rows(t, func(_ call, _, after api.Locks) {
		for _, q := range after.Queues {
			most = max(most, len(q.Holders))
			for i, a := range q.Holders {
				for _, b := range q.Holders[:i] {
					if !mode.Goes(a.Mode, b.Mode) {
						t.Fatalf("%v do not go together", q)
					}
				}
			}
		}
	})
	if most < 4 {
		t.Fatalf("at most %d held one thing", most)
	}
}

// P8.6: what one holds is lost by Release alone, its own, and else never less.
func TestWhatIsHeldIsLostByReleaseAlone(t *testing.T) {
	lost := 0
	rows(t, func(c call, before, after api.Locks) {
		for txn := range 10 {
			for _, held := range locks.Holds(before, txn) {
				now := locks.Mode(after, txn, held.Res)
				if c.kind == releases && c.txn == txn {
					if now != none {
						t.Fatalf("%v, of %v: %d is held yet", c, held, now)
					}
					lost++
				} else if !mode.Covers(now, held.Mode) {
					t.Fatalf("%v: of %v %d is left to %d", c, held, now, txn)
				}
			}
		}
	})
	if lost < 100 {
		t.Fatalf("%d were lost", lost)
	}
}

// P8.6: who waits has blockers, and when all of these have released, in whichever order, it waits no more, and holds what it wanted.
func TestWhoWaitsHasBlockers(t *testing.T) {
	waited := 0
	rows(t, func(_ call, _, after api.Locks) {
		for txn := range 10 {
			r, wanted, waiting := locks.Waits(after, txn)
			if !waiting {
				continue
			}
			waited++
			blockers := locks.Blockers(after, txn)
			if len(blockers) == 0 || slices.Contains(blockers, txn) || !slices.IsSorted(blockers) {
				t.Fatalf("%v: blockers of %d: %v", after, txn, blockers)
			}
			for range 2 {
				slices.Reverse(blockers)
				l := after
				for _, b := range blockers {
					l, _, _ = locks.Release(l, b)
				}
				if _, _, waiting := locks.Waits(l, txn); waiting || locks.Mode(l, txn, r) != wanted {
					t.Fatalf("%v, without %v: %v", after, blockers, l)
				}
			}
		}
	})
	if waited < 1000 {
		t.Fatalf("%d waited", waited)
	}
}

// P8.6: as long as one of its blockers holds what its mode does not go with, who waits does so, though all others have released.
func TestWhoWaitsWaitsForAll(t *testing.T) {
	stayed := 0
	row(t, 3, 1000, 8, []api.Res{tab, k}, func(_ call, _, after api.Locks) {
		for txn := range 9 {
			r, wanted, _ := locks.Waits(after, txn)
			blockers := locks.Blockers(after, txn)
			for _, stays := range blockers {
				if mode.Goes(locks.Mode(after, stays, r), wanted) {
					continue
				}
				l := after
				for _, b := range blockers {
					if b != stays {
						l, _, _ = locks.Release(l, b)
					}
				}
				checkWaits(t, l, txn, r, wanted, true)
				stayed++
			}
		}
	})
	if stayed < 100 {
		t.Fatalf("%d stayed", stayed)
	}
}

// P8.6: who asks for what nobody else holds, and waits for, is granted it, or has it.
func TestWhatNobodyElseHoldsIsGranted(t *testing.T) {
	met := map[int]int{}
	rows(t, func(c call, before, after api.Locks) {
		if c.kind != asks {
			return
		}
		if _, _, waiting := locks.Waits(before, c.txn); waiting {
			return
		}
		for _, q := range before.Queues {
			others := slices.ContainsFunc(q.Holders, func(h api.Hold) bool { return h.Txn != c.txn })
			if q.Res == c.res && (others || len(q.Waiters) > 0) {
				return
			}
		}
		got, answer, err := locks.Ask(before, c.txn, c.res, c.mode)
		if err != api.OK || answer == waits || !mode.Covers(locks.Mode(got, c.txn, c.res), c.mode) {
			t.Fatalf("%v: %v: %d, error %d", before, c, answer, err)
		}
		met[answer]++
	})
	if met[granted] < 50 || met[had] < 10 {
		t.Fatalf("too few: %v", met)
	}
}

// P8.6: when all have released, nothing is locked.
func TestWhenAllHaveReleased(t *testing.T) {
	for seed := range 20 {
		var last api.Locks
		row(t, seed, 300, 9, []api.Res{tab, k, table(1), key(1, 1)}, func(_ call, _, after api.Locks) { last = after })
		for txn := range 9 {
			last, _, _ = locks.Release(last, (txn+seed)%9+1)
		}
		checkLocks(t, "the locks", last, api.Locks{})
	}
}

// P8.2 to P8.5, R5: an answer hangs on its arguments alone: the same call, once more and behind others, answers the same.
func TestAnswersStay(t *testing.T) {
	type kept struct {
		c             call
		before, after api.Locks
	}
	var all []kept
	row(t, 5, 400, 8, []api.Res{tab, k, key(1, 1)}, func(c call, before, after api.Locks) {
		all = append(all, kept{c, before, after})
	})
	slices.Reverse(all)
	for _, was := range all {
		for range 2 {
			checkLocks(t, "once more", checkCall(t, was.c, was.before), was.after)
		}
	}
}
