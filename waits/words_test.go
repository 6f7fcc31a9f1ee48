package waits_test

import (
	"slices"
	"testing"

	"bursary/api"
	"bursary/waits"
)

// named is all transactions that edges name, rising.
func named(l []api.Edge) []int {
	var out []int
	for _, e := range l {
		out = append(out, e.From, e.To)
	}
	slices.Sort(out)
	return slices.Compact(out)
}

// mayBeByWords says whether edges may be, sentence by sentence of the chapter's words.
func mayBeByWords(l []api.Edge) bool {
	ok := len(named(l)) <= 8
	for i, e := range l {
		ok = ok && e.From > 0 && e.To > 0 && e.From != e.To
		for _, ahead := range l[:i] {
			ok = ok && ahead != e && (ahead.From < e.From || ahead.From == e.From && ahead.To < e.To)
		}
	}
	return ok
}

// leadsByWords looks at all who are one step off, then two, then three: no way needs more steps than there are edges.
func leadsByWords(l []api.Edge, from, to int) bool {
	at := map[int]bool{from: true}
	for range l {
		next := map[int]bool{}
		for _, e := range l {
			if at[e.From] {
				next[e.To] = true
			}
		}
		if next[to] {
			return true
		}
		at = next
	}
	return false
}

// boundByWords is those to which a way leads, and from which one leads back.
func boundByWords(l []api.Edge, txn int) []int {
	var out []int
	for _, other := range named(l) {
		if leadsByWords(l, txn, other) && leadsByWords(l, other, txn) {
			out = append(out, other)
		}
	}
	return out
}

// victimByWords is the greatest of these.
func victimByWords(l []api.Edge, txn int) int {
	return slices.Max(append(boundByWords(l, txn), 0))
}

// withoutByWords is all edges that don't name a transaction.
func withoutByWords(l []api.Edge, txn int) []api.Edge {
	var out []api.Edge
	for _, e := range l {
		if e.From != txn && e.To != txn {
			out = append(out, e)
		}
	}
	return out
}

// breakByWords takes victims away as long as there is one.
func breakByWords(l []api.Edge, txn int) ([]int, []api.Edge) {
	var gone []int
	for victimByWords(l, txn) > 0 {
		v := victimByWords(l, txn)
		gone, l = append(gone, v), withoutByWords(l, v)
	}
	return gone, l
}

// cyclesByWords makes all rows of unlike transactions along edges, shorter ones first, takes those that lead back, and puts them in order.
func cyclesByWords(l []api.Edge, txn int) [][]int {
	var out [][]int
	for rows := [][]int{{txn}}; len(rows) > 0; {
		var longer [][]int
		for _, r := range rows {
			for _, e := range l {
				if e.From != r[len(r)-1] {
					continue
				}
				if e.To == txn {
					out = append(out, r)
				} else if !slices.Contains(r, e.To) {
					longer = append(longer, append(slices.Clone(r), e.To))
				}
			}
		}
		rows = longer
	}
	slices.SortFunc(out, slices.Compare)
	return out
}

// addByWords is both together, each edge once, in order.
func addByWords(l, more []api.Edge) []api.Edge {
	all := map[api.Edge]bool{}
	for _, e := range slices.Concat(l, more) {
		all[e] = true
	}
	var out []api.Edge
	for e := range all {
		out = append(out, e)
	}
	slices.SortFunc(out, func(a, b api.Edge) int { return slices.Compare([]int{a.From, a.To}, []int{b.From, b.To}) })
	return out
}

// circlesByWords says whether somebody is on a cycle.
func circlesByWords(l []api.Edge) bool {
	return slices.ContainsFunc(named(l), func(txn int) bool { return len(cyclesByWords(l, txn)) > 0 })
}

// checkAll holds all that is told of edges that may be, to these transactions, against the words.
func checkAll(t *testing.T, l []api.Edge, txns []int) {
	t.Helper()
	checkCheck(t, "the words", l, api.OK)
	checkCircles(t, l, circlesByWords(l))
	for _, txn := range txns {
		for _, to := range txns {
			checkLeads(t, l, txn, to, leadsByWords(l, txn, to))
		}
		checkBound(t, l, txn, boundByWords(l, txn)...)
		checkCycles(t, l, txn, cyclesByWords(l, txn)...)
		gone, left := breakByWords(l, txn)
		checkBreak(t, l, txn, gone, left)
		checkWithout(t, l, txn, withoutByWords(l, txn))
	}
}

// checkAddByWords holds Add to edges that may be against the words, and says which error was wanted.
func checkAddByWords(t *testing.T, l, more []api.Edge) api.Errno {
	t.Helper()
	want := addByWords(l, more)
	if !mayBeByWords(want) {
		refuseAdd(t, l, more, api.ErrArg)
		return api.ErrArg
	}
	checkAdd(t, l, more, want)
	return api.OK
}

// eachSet tells all sets of these edges, each in their order.
func eachSet(of []api.Edge, tell func(l []api.Edge)) {
	for bits := range 1 << len(of) {
		var l []api.Edge
		for i, e := range of {
			if bits>>i&1 == 1 {
				l = append(l, e)
			}
		}
		tell(l)
	}
}

// eachRow tells all rows of at most so many of these edges, in whichever order, again and again the same.
func eachRow(of []api.Edge, most int, tell func(l []api.Edge)) {
	var grow func(l []api.Edge)
	grow = func(l []api.Edge) {
		tell(l)
		if len(l) < most {
			for _, e := range of {
				grow(append(slices.Clone(l), e))
			}
		}
	}
	grow(nil)
}

// pairs is all edges of these numbers, such as may not be too.
func pairs(numbers ...int) []api.Edge {
	var out []api.Edge
	for _, from := range numbers {
		for _, to := range numbers {
			out = append(out, api.Edge{From: from, To: to})
		}
	}
	return out
}

// dice are numbers that hang on how many were thrown alone.
type dice uint32

// throw is a number from 0 on and below n.
func (d *dice) throw(n int) int {
	*d = *d*1664525 + 1013904223
	return int(*d>>16) % n
}

// some is some of these edges by chance, of each hundred about so many, in their order.
func (d *dice) some(of []api.Edge, hundredth int) []api.Edge {
	var out []api.Edge
	for _, e := range of {
		if d.throw(100) < hundredth {
			out = append(out, e)
		}
	}
	return out
}

// P9.1 to P9.5: all sets of edges among three transactions, and among four.
func TestAllSmallSets(t *testing.T) {
	eachSet(complete(3, 20, 100), func(l []api.Edge) { checkAll(t, l, []int{0, 2, 3, 20, 50, 100}) })
	n := 0
	eachSet(complete(1, 2, 3, 4), func(l []api.Edge) {
		checkAll(t, l, []int{1, 2, 3, 4})
		n++
	})
	if n != 4096 {
		t.Fatalf("%d sets", n)
	}
}

// P9.1 to P9.5: many sets of edges among five to eight transactions, of few edges and of many.
func TestManyGreaterSets(t *testing.T) {
	d := dice(9)
	for n := 5; n <= api.MaxLive; n++ {
		for _, hundredth := range []int{8, 15, 20, 30, 50} {
			if n > 6 && hundredth > 30 {
				continue // the plain search takes long there
			}
			for range 60 {
				checkAll(t, d.some(complete(upTo(n)...), hundredth), upTo(n))
			}
		}
	}
}

// P9.1: all rows of at most three edges of few numbers, such as may be, and such as may not be.
func TestCheckOfAllSmallRows(t *testing.T) {
	met := map[api.Errno]int{}
	eachRow(pairs(-1, 0, 1, 2, 3), 3, func(l []api.Edge) {
		want := api.ErrEdges
		if mayBeByWords(l) {
			want = api.OK
		}
		checkCheck(t, "a small row", l, want)
		met[want]++
	})
	// Of three transactions' six edges: none, 6 alone, 15 pairs, 20 of three.
	if met[api.OK] != 42 || met[api.ErrEdges] != 1+25+625+15625-42 {
		t.Fatalf("rows: %v", met)
	}
}

// P9.1 to P9.5: of all small rows of edges that may not be nothing is told but ErrEdges.
func TestAllSmallRowsThatMayNotBe(t *testing.T) {
	eachRow(pairs(0, 1, 2, 3), 2, func(l []api.Edge) {
		if mayBeByWords(l) {
			return
		}
		checkCircles(t, l, false)
		refuseAdd(t, l, l, api.ErrEdges)
		for txn := range 4 {
			checkLeads(t, l, txn, 1, false)
			all, e1 := waits.Bound(l, txn)
			v, e2 := waits.Victim(l, txn)
			gone, left, e3 := waits.Break(l, txn)
			cycles, e4 := waits.Cycles(l, txn)
			without, e5 := waits.Without(l, txn)
			if v != 0 || len(all)+len(gone)+len(left)+len(cycles)+len(without) > 0 {
				t.Fatalf("%v, %d: %v, %d, %v, %v, %v, %v", l, txn, all, v, gone, left, cycles, without)
			}
			if got := []api.Errno{e1, e2, e3, e4, e5}; !slices.Equal(got, slices.Repeat([]api.Errno{api.ErrEdges}, 5)) {
				t.Fatalf("%v, %d: errors %v", l, txn, got)
			}
		}
	})
}

// P9.5: to all sets of edges among three transactions all rows of at most two that may come, or may not.
func TestAddOfAllSmallRows(t *testing.T) {
	met := map[api.Errno]int{}
	eachSet(complete(1, 2, 3), func(l []api.Edge) {
		eachRow(pairs(0, 1, 2, 3, 4), 2, func(more []api.Edge) {
			met[checkAddByWords(t, l, more)]++
		})
	})
	// Of 25 pairs 12 are edges.
	if met[api.OK] != 64*(1+12+144) || met[api.ErrArg] != 64*(1+25+625-1-12-144) {
		t.Fatalf("rows: %v", met)
	}
}

// P9.5: to many sets of edges many rows that come, of as many transactions together as there may be, and of more.
func TestAddOfManyGreaterRows(t *testing.T) {
	d := dice(5)
	met := map[api.Errno]int{}
	for range 4000 {
		l := d.some(complete(upTo(api.MaxLive)...), 8)
		more := d.some(complete(2, 3, 5, 7, 8, 9, 10), 8)
		for i := range more {
			j := d.throw(len(more))
			more[i], more[j] = more[j], more[i]
		}
		met[checkAddByWords(t, l, more)]++
	}
	if met[api.OK] < 500 || met[api.ErrArg] < 500 {
		t.Fatalf("too few of one kind: %v", met)
	}
}
