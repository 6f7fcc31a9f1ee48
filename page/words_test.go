package page_test

import (
	"slices"
	"testing"

	"bursary/api"
	"bursary/row"
)

// joinedByWords is the rows, kids of both, b's behind a's, b's first kid with the step as its Least.
func joinedByWords(a, b api.Content, k api.Key) api.Content {
	out := cloned(a)
	out.Rows = append(out.Rows, b.Rows...)
	for i, one := range b.Kids {
		if i == 0 {
			one.Least = k
		}
		out.Kids = append(out.Kids, one)
	}
	return out
}

// risesByWords says whether each key stands behind the one ahead of it, and no page is there twice.
func risesByWords(c api.Content) bool {
	met := map[int]int{}
	for i, one := range c.Kids {
		met[one.Page]++
		if met[one.Page] > 1 || i > 0 && row.Compare(c.Kids[i-1].Least, one.Least) >= 0 {
			return false
		}
	}
	for i := range c.Rows {
		if i > 0 && row.Compare(c.Rows[i-1].Key, c.Rows[i].Key) >= 0 {
			return false
		}
	}
	return true
}

// joinByWords is what Join answers of two pages that may be, of one Kind, not free.
func joinByWords(a, b api.Content, k api.Key) answer {
	all := joinedByWords(a, b, k)
	if size(all) > 4 {
		return answer{e: api.ErrFull}
	}
	if !risesByWords(all) {
		return answer{e: api.ErrArg}
	}
	return answer{a: all}
}

// levelByWords is what Level answers of such ones: what goes over is moved by hand, as the words tell it.
func levelByWords(a, b api.Content, k api.Key) answer {
	if size(a) == size(b) || size(a) == 0 && size(b) == 1 || !risesByWords(joinedByWords(a, b, k)) {
		return answer{e: api.ErrArg}
	}
	out := answer{a: cloned(a), b: cloned(b)}
	lower, upper := &out.a, &out.b
	switch {
	case a.Kind == api.KindLeaf && size(a) < size(b):
		lower.Rows, upper.Rows = append(lower.Rows, upper.Rows[0]), upper.Rows[1:]
		out.key = upper.Rows[0].Key
	case a.Kind == api.KindLeaf:
		last := lower.Rows[len(lower.Rows)-1]
		lower.Rows, upper.Rows = lower.Rows[:len(lower.Rows)-1], slices.Concat([]api.Row{last}, upper.Rows)
		out.key = last.Key
	case size(a) < size(b):
		lower.Kids, upper.Kids = append(lower.Kids, api.Kid{Least: k, Page: upper.Kids[0].Page}), upper.Kids[1:]
		out.key = upper.Kids[0].Least
		upper.Kids[0].Least = key(0, 0)
	default:
		last := lower.Kids[len(lower.Kids)-1]
		upper.Kids[0].Least = k
		lower.Kids, upper.Kids = lower.Kids[:len(lower.Kids)-1], slices.Concat([]api.Kid{{Page: last.Page}}, upper.Kids)
		out.key = last.Least
	}
	return out
}

// P11.4: Join and Level of each two leaves of few keys, held against the words.
func TestAllPairsOfLeaves(t *testing.T) {
	levelled, joined := 0, 0
	for _, a := range goodLeaves() {
		for _, b := range goodLeaves() {
			for _, k := range []api.Key{key(0, 2), key(-1, 0)} {
				wantJ, wantL := joinByWords(a, b, k), levelByWords(a, b, k)
				check(t, "Join", join(t, a, b, k), wantJ)
				check(t, "Level", level(t, a, b, k), wantL)
				joined, levelled = joined+came(wantJ), levelled+came(wantL)
			}
		}
	}
	if joined < 500 || levelled < 300 {
		t.Fatalf("%d pairs were joined, and %d levelled", joined, levelled)
	}
}

// P11.4: Join and Level of each two inner pages of few Leasts, with each of these as their step, and with steps of no table.
func TestAllPairsOfInnerPages(t *testing.T) {
	levelled, joined := 0, 0
	for _, a := range goodInners(20) {
		for _, first := range []int{1, 22, 60} { // the second one has pages of a's, where that one has them
			for _, b := range goodInners(first) {
				for _, k := range slices.Concat(someKeys, oddKeys[:4]) {
					wantJ, wantL := joinByWords(a, b, k), levelByWords(a, b, k)
					check(t, "Join", join(t, a, b, k), wantJ)
					check(t, "Level", level(t, a, b, k), wantL)
					joined, levelled = joined+came(wantJ), levelled+came(wantL)
				}
			}
		}
	}
	if joined < 20 || levelled < 20 {
		t.Fatalf("%d pairs were joined, and %d levelled", joined, levelled)
	}
}

// came is 1 of what is no error, else 0.
func came(a answer) int {
	if a.e == api.OK {
		return 1
	}
	return 0
}
