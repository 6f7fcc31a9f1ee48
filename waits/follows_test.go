package waits_test

import (
	"slices"
	"testing"

	"bursary/api"
	"bursary/waits"
)

// eachAdding tells many edges without a cycle, a transaction, and them with further ones that are all from it or to it.
func eachAdding(t *testing.T, tell func(txn int, before, after []api.Edge)) {
	t.Helper()
	adding := func(l []api.Edge, txn int, more []api.Edge) {
		after, err := waits.Add(l, more...)
		expect(t, "Add", err, api.OK)
		tell(txn, l, after)
	}
	eachSet(complete(1, 2, 3), func(l []api.Edge) {
		if circlesByWords(l) {
			return
		}
		for _, txn := range []int{1, 2, 3, 4} {
			eachSet(ofOne(txn, 4), func(more []api.Edge) { adding(l, txn, more) })
		}
	})
	d := dice(26)
	for range 6000 {
		n := 4 + d.throw(api.MaxLive-3)
		l := d.acyclic(n)
		txn := 1 + d.throw(n)
		adding(l, txn, d.some(ofOne(txn, n), 10+d.throw(50)))
	}
}

// ofOne is all edges among 1 to n from a transaction and to it.
func ofOne(txn, n int) []api.Edge {
	return slices.DeleteFunc(complete(upTo(n)...), func(e api.Edge) bool { return e.From != txn && e.To != txn })
}

// acyclic is some edges among 1 to n, all of which lead upwards in some order of these.
func (d *dice) acyclic(n int) []api.Edge {
	height := upTo(n)
	for i := range height {
		j := d.throw(n)
		height[i], height[j] = height[j], height[i]
	}
	up := slices.DeleteFunc(complete(upTo(n)...), func(e api.Edge) bool { return height[e.From-1] > height[e.To-1] })
	return d.some(up, 20+d.throw(60))
}

// P9.6: if there is no cycle, and edges are added that all are from or to one transaction, each cycle is through it.
func TestEachCycleIsThroughWhoAsked(t *testing.T) {
	met := 0
	eachAdding(t, func(txn int, before, after []api.Edge) {
		checkCircles(t, before, false)
		for _, other := range named(after) {
			for _, c := range cyclesByWords(after, other) {
				if !slices.Contains(c, txn) {
					t.Fatalf("%v: the cycle %v is not through %d", after, c, txn)
				}
				met++
			}
		}
		if own, err := waits.Cycles(after, txn); err != api.OK || waits.Circles(after) != (len(own) > 0) {
			t.Fatalf("%v: there is a cycle, or none, and through %d are %v, error %d", after, txn, own, err)
		}
	})
	if met < 10000 {
		t.Fatalf("%d cycles", met)
	}
}

// P9.6: behind Break of that transaction there is no cycle.
func TestNoCycleBehindBreak(t *testing.T) {
	several := 0
	eachAdding(t, func(txn int, _, after []api.Edge) {
		gone, left, err := waits.Break(after, txn)
		if err != api.OK || circlesByWords(left) {
			t.Fatalf("%v: behind Break(%d): %v, error %d", after, txn, left, err)
		}
		checkCircles(t, left, false)
		if len(gone) > 1 {
			several++
		}
	})
	if several < 1000 {
		t.Fatalf("of %d several went", several)
	}
}

// eachBreak tells each transaction of many edges, with several cycles too, and its victims.
func eachBreak(t *testing.T, tell func(l []api.Edge, txn int, gone []int, left []api.Edge)) {
	t.Helper()
	breaking := func(l []api.Edge, n int) {
		for _, txn := range upTo(n) {
			gone, left, err := waits.Break(l, txn)
			expect(t, "Break", err, api.OK)
			tell(l, txn, gone, left)
		}
	}
	eachSet(complete(1, 2, 3, 4), func(l []api.Edge) { breaking(l, 4) })
	d := dice(3)
	for range 300 {
		n := 5 + d.throw(api.MaxLive-4)
		breaking(d.some(complete(upTo(n)...), 10+d.throw(20)), n)
	}
}

// P9.6: each victim is the youngest of each cycle on which it lies when it is taken away, and lies on one.
func TestEachVictimIsTheYoungest(t *testing.T) {
	met := 0
	eachBreak(t, func(l []api.Edge, txn int, gone []int, left []api.Edge) {
		now := l
		for _, v := range gone {
			all := cyclesByWords(now, v)
			if len(all) == 0 {
				t.Fatalf("%v: Break(%d): %v, though %d is on no cycle of %v", l, txn, gone, v, now)
			}
			for _, c := range all {
				if slices.Max(c) != v {
					t.Fatalf("%v: Break(%d): %v, though %d is not the youngest of %v", l, txn, gone, v, c)
				}
			}
			now = withoutByWords(now, v)
			met++
		}
		if !slices.Equal(now, left) || len(cyclesByWords(left, txn)) > 0 {
			t.Fatalf("%v: Break(%d): %v: %v is left", l, txn, gone, left)
		}
	})
	if met < 10000 {
		t.Fatalf("%d victims", met)
	}
}

// P9.6: who lies on no cycle is no victim, of nobody's.
func TestWhoLiesOnNoCycleIsNoVictim(t *testing.T) {
	met := 0
	eachBreak(t, func(l []api.Edge, txn int, gone []int, _ []api.Edge) {
		victim, err := waits.Victim(l, txn)
		expect(t, "Victim", err, api.OK)
		for _, other := range named(l) {
			if len(cyclesByWords(l, other)) > 0 {
				continue
			}
			met++
			if other == victim || slices.Contains(gone, other) {
				t.Fatalf("%v: %d is a victim of %d's", l, other, txn)
			}
		}
	})
	if met < 5000 {
		t.Fatalf("%d lay on no cycle", met)
	}
}
