package escrow_test

import (
	"slices"
	"testing"

	"bursary/api"
	"bursary/escrow"
)

// witness is a transaction that adds nothing, so that a key stays pending, and its value is to be seen, when all others are over.
const witness = 1000

// eachReached tells many games, step by step: few keys and transactions, small numbers.
func eachReached(t *testing.T, steps int, tell func(g *game)) {
	t.Helper()
	for seed := range 6 {
		d, keys := dice(seed), someKeys(1+seed%3)
		g := newGame(t, valuesOf(keys, 4), api.Bounds{Min: -int64(seed), Max: 10})
		for range steps {
			g.step(&d, keys, 2+seed%4, 4)
			tell(g)
		}
	}
}

// P10.6: no choice leaves the bounds behind an Add that was let be, nor behind whatever comes then.
func TestNoChoiceLeavesTheBounds(t *testing.T) {
	met := 0
	eachReached(t, 3000, func(g *game) {
		for _, p := range g.e.Rows {
			met++
			if leavesByWords(choices(p), g.bounds) {
				t.Fatalf("%v leaves %v", p, g.bounds)
			}
			lesser, now, greater, err := escrow.Ends(p)
			if err != api.OK || lesser < g.bounds.Min || greater > g.bounds.Max || now < lesser || now > greater {
				t.Fatalf("%v: %d, %d, %d, error %d", p, lesser, now, greater, err)
			}
		}
	})
	if met < 5000 {
		t.Fatalf("%d keys", met)
	}
}

// witnessed is an escrow in which the witness has a share of each key.
func witnessed(t *testing.T, e api.Escrow, b api.Bounds) api.Escrow {
	t.Helper()
	for _, p := range e.Rows {
		out, err := escrow.Add(e, p.Key, adding(witness, 0, 0, b))
		expect(t, "the witness's Add", err, api.OK)
		e = out
	}
	return e
}

// leave is the escrow behind the end of all of these, in order, each of which commits or does not.
func leave(t *testing.T, e api.Escrow, txns []int, commits map[int]bool) api.Escrow {
	t.Helper()
	for _, txn := range txns {
		out, err := escrow.Over(e, txn, commits[txn])
		expect(t, "Over", err, api.OK)
		e = out
	}
	return e
}

// txnsOf is all transactions that have added, rising.
func txnsOf(e api.Escrow) []int {
	var out []int
	for _, p := range e.Rows {
		for _, s := range p.Shares {
			out = append(out, s.Txn)
		}
	}
	slices.Sort(out)
	return slices.Compact(out)
}

// eachEnding tells each choice of who commits.
func eachEnding(txns []int, tell func(commits map[int]bool)) {
	for set := range 1 << len(txns) {
		commits := map[int]bool{}
		for i, txn := range txns {
			commits[txn] = set>>i&1 > 0
		}
		tell(commits)
	}
}

// within asks whether the values of all keys, of each way of ending, are within the bounds.
func within(t *testing.T, e api.Escrow, b api.Bounds) {
	t.Helper()
	txns := txnsOf(e)
	seen := witnessed(t, e, b)
	eachEnding(txns, func(commits map[int]bool) {
		for _, p := range leave(t, seen, txns, commits).Rows {
			if p.Value < b.Min || p.Value > b.Max {
				t.Fatalf("%v: if these commit: %v, it comes to %v", e, commits, p)
			}
		}
	})
}

// P10.6: nothing leaves the bounds, whoever is over, whichever way, and goes back as far as it likes, to 0 and to each sum that it ever had.
func TestNothingLeavesTheBounds(t *testing.T) {
	met := 0
	eachReached(t, 250, func(g *game) {
		within(t, g.e, g.bounds)
		for k, s := range g.m {
			for txn, sums := range s.sums {
				now := sums[len(sums)-1]
				for _, to := range append(slices.Clone(sums), 0) {
					out, err := escrow.Back(g.e, k, txn, now-to)
					expect(t, "Back to a sum that was", err, api.OK)
					within(t, out, g.bounds)
					met++
				}
			}
		}
	})
	if met < 3000 {
		t.Fatalf("%d ways back", met)
	}
}

// P10.6: all transactions go back at once, each to some sum that it had: whoever commits, nothing leaves the bounds.
func TestNothingLeavesTheBoundsIfAllGoBack(t *testing.T) {
	d := dice(6)
	eachReached(t, 250, func(g *game) {
		for range 4 {
			e := g.e
			for _, p := range g.e.Rows {
				for _, s := range p.Shares {
					had := append(slices.Clone(g.m[p.Key].sums[s.Txn]), 0)
					out, err := escrow.Back(e, p.Key, s.Txn, s.Sum-had[d.throw(len(had))])
					expect(t, "Back", err, api.OK)
					e = out
				}
			}
			within(t, e, g.bounds)
		}
	})
}

// P10.6: whoever is refused would let some choice leave the bounds, and if it is let be, none does.
func TestWhoIsRefused(t *testing.T) {
	met := map[api.Errno]int{}
	eachReached(t, 400, func(g *game) {
		for _, p := range g.e.Rows {
			for txn := 1; txn <= 6; txn++ {
				for by := int64(-6); by <= 6; by++ {
					_, err := escrow.Add(g.e, p.Key, adding(txn, by, 0, g.bounds))
					left := leavesByWords(choices(widenedByWords(p, txn, by)), g.bounds)
					if err != api.OK && err != api.ErrBound || (err == api.ErrBound) != left {
						t.Fatalf("%v: Add(%d, %d): error %d, though some choice leaves %v: %t", p, txn, by, err, g.bounds, left)
					}
					met[err]++
				}
			}
		}
	})
	if met[api.OK] < 5000 || met[api.ErrBound] < 5000 {
		t.Fatalf("too few of one kind: %v", met)
	}
}

// valueNow is a key's Value with all Sums.
func valueNow(t *testing.T, e api.Escrow, k api.Key) int64 {
	t.Helper()
	p, _ := escrow.Find(e, k)
	_, now, _, err := escrow.Ends(p)
	expect(t, "Ends", err, api.OK)
	return now
}

// P10.6: Back of an Add leads to the value that was, and so does the end of who has added and gone back, whichever way.
func TestBackOfAnAdd(t *testing.T) {
	met := 0
	eachReached(t, 200, func(g *game) {
		for _, p := range witnessed(t, g.e, g.bounds).Rows {
			e := witnessed(t, g.e, g.bounds)
			was := valueNow(t, e, p.Key)
			for txn := 1; txn <= 6; txn++ {
				has := slices.Contains(txnsOf(g.e), txn)
				for by := int64(-6); by <= 6; by++ {
					out, err := escrow.Add(e, p.Key, adding(txn, by, 0, g.bounds))
					if err != api.OK {
						continue
					}
					out, err = escrow.Back(out, p.Key, txn, by)
					expect(t, "Back", err, api.OK)
					if now := valueNow(t, out, p.Key); now != was {
						t.Fatalf("%v: Add and Back of %d, %d lead from %d to %d", p, txn, by, was, now)
					}
					met++
					if has {
						continue
					}
					for _, commits := range []bool{false, true} {
						if left := leave(t, out, []int{txn}, map[int]bool{txn: commits}); !same(left, e) {
							t.Fatalf("%v: Add, Back and Over(%t) of %d, %d lead to %v", e, commits, txn, by, left)
						}
					}
				}
			}
		}
	})
	if met < 5000 {
		t.Fatalf("%d met", met)
	}
}

// P10.6: who goes back all the way comes to the same value, whether it commits or not, in keys where it has added more than once too.
func TestOverOfWhoHasGoneBack(t *testing.T) {
	met := 0
	eachReached(t, 600, func(g *game) {
		e := witnessed(t, g.e, g.bounds)
		for _, txn := range txnsOf(g.e) {
			gone := e
			for _, p := range g.e.Rows {
				if sum, has := g.m[p.Key].now(txn); has {
					out, err := escrow.Back(gone, p.Key, txn, sum)
					expect(t, "Back of all", err, api.OK)
					gone = out
				}
			}
			yes, no := leave(t, gone, []int{txn}, map[int]bool{txn: true}), leave(t, gone, []int{txn}, nil)
			if aborted := leave(t, e, []int{txn}, nil); !same(yes, no) || !same(no, aborted) {
				t.Fatalf("%v: %d has gone back: %v if it commits, %v if not, %v if it had not", e, txn, yes, no, aborted)
			}
			met++
		}
	})
	if met < 2000 {
		t.Fatalf("%d met", met)
	}
}

// orders is all orders of some numbers.
func orders(of []int) [][]int {
	if len(of) == 0 {
		return [][]int{nil}
	}
	var out [][]int
	for i, n := range of {
		for _, rest := range orders(slices.Concat(of[:i], of[i+1:])) {
			out = append(out, append([]int{n}, rest...))
		}
	}
	return out
}

// P10.6: in whatever order several are over, it comes to the same, whoever of them commits.
func TestWhateverOrder(t *testing.T) {
	met := 0
	eachReached(t, 40, func(g *game) {
		e := witnessed(t, g.e, g.bounds)
		txns := txnsOf(g.e)
		some := orders(txns)
		eachEnding(txns, func(commits map[int]bool) {
			want := leave(t, e, txns, commits)
			for _, order := range some {
				met++
				if got := leave(t, e, order, commits); !escrow.Same(got, want) {
					t.Fatalf("%v: %v in the order %v: %v, want %v", e, commits, order, got, want)
				}
				if left := leave(t, g.e, order, commits); len(left.Rows) > 0 {
					t.Fatalf("%v: all are over, and %v is left", g.e, left)
				}
			}
		})
	})
	if met < 10000 {
		t.Fatalf("%d orders", met)
	}
}
