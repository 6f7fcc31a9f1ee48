package page_test

import (
	"math"
	"slices"
	"testing"

	"bursary/api"
)

// P11.4: a full leaf: both halves, and the key of the upper part's first row.
func TestSplitOfLeaves(t *testing.T) {
	check(t, "of one table", split(t, ids(1, 2, 3, 4)), answer{a: ids(1, 2), b: ids(3, 4), key: key(0, 3)})
	check(t, "of all tables", split(t, leafOf(key(0, 7), key(0, 9), key(1, 5), key(2, 0))), answer{a: ids(7, 9), b: leafOf(key(1, 5), key(2, 0)), key: key(1, 5)})
	r := at(2, 65535, math.MinInt64, "\x00\xff")
	check(t, "the last of all keys", split(t, leaf(api.Row{}, rowOf(key(0, 1)), rowOf(key(2, 65534)), r)), answer{a: leaf(api.Row{}, rowOf(key(0, 1))), b: leaf(rowOf(key(2, 65534)), r), key: key(2, 65534)})
}

// P11.4: a full inner page: both halves, the upper part's first Least zero, which is the step.
func TestSplitOfInnerPages(t *testing.T) {
	check(t, "of one table", split(t, kids(3, 5, 7, 9)), answer{a: kids(3, 5), b: inner(on(0, 0, 5), on(0, 9, 6)), key: key(0, 7)})
	check(t, "of all tables", split(t, inner(on(0, 0, 63), on(1, 0, 1), on(2, 0, 62), on(2, 65535, 2))), answer{a: inner(on(0, 0, 63), on(1, 0, 1)), b: inner(on(0, 0, 62), on(2, 65535, 2)), key: key(2, 0)})
}

// P11.4: what is not full, or free, is not split.
func TestSplitOfWhatIsNotFull(t *testing.T) {
	for _, c := range []api.Content{{}, free, {Rows: []api.Row{}, Kids: []api.Kid{}}, leaf(), ids(1), ids(1, 2), ids(1, 2, 3), kids(3, 5), kids(3, 5, 7)} {
		refused(t, "Split", split(t, c), api.ErrArg)
	}
}

// P11.4: Split of all leaves and inner pages of few keys.
func TestSplitOfMany(t *testing.T) {
	for _, c := range goodPages() {
		want := answer{e: api.ErrArg}
		switch {
		case len(c.Rows) == 4:
			want = answer{a: leaf(c.Rows[0], c.Rows[1]), b: leaf(c.Rows[2], c.Rows[3]), key: c.Rows[2].Key}
		case len(c.Kids) == 4:
			upper := []api.Kid{{Page: c.Kids[2].Page}, c.Kids[3]}
			want = answer{a: inner(c.Kids[0], c.Kids[1]), b: inner(upper...), key: c.Kids[2].Least}
		}
		check(t, "Split", split(t, c), want)
	}
}

// P11.4: what may not be is not split: of five, of six, of eight.
func TestSplitOfTooMany(t *testing.T) {
	for _, c := range []api.Content{ids(1, 2, 3, 4, 5), ids(1, 2, 3, 4, 5, 6, 7, 8), kids(3, 1, 2, 3, 4), kids(3, 1, 2, 3, 4, 5, 6, 7)} {
		refused(t, "Split", split(t, c), api.ErrContent)
	}
}

// P11.4: leaves of each two sizes, till both are more than a full one; whatever the step, for rows have keys of their own.
func TestJoinOfLeaves(t *testing.T) {
	steps := slices.Concat(someKeys, oddKeys, keysOf(5))
	for n := range 5 {
		for m := range 5 {
			all := ids(2, 4, 6, 8, 10, 12, 14, 16).Rows
			want := answer{a: leaf(all[:n+m]...)}
			if n+m > 4 {
				want = answer{e: api.ErrFull}
			}
			for _, k := range steps {
				check(t, "Join", join(t, leaf(all[:n]...), leaf(all[n:n+m]...), k), want)
			}
		}
	}
}

// P11.4: inner pages of each two sizes; the step is the Least of the kid that was b's first.
func TestJoinOfInnerPages(t *testing.T) {
	check(t, "two and two", join(t, kids(3, 5), kids(9, 12), key(0, 7)), answer{a: inner(on(0, 0, 3), on(0, 5, 4), on(0, 7, 9), on(0, 12, 10))})
	check(t, "the least step", join(t, kids(3, 5), kids(9, 12), key(0, 6)), answer{a: inner(on(0, 0, 3), on(0, 5, 4), on(0, 6, 9), on(0, 12, 10))})
	check(t, "the greatest step", join(t, kids(3, 5), kids(9, 12), key(0, 11)), answer{a: inner(on(0, 0, 3), on(0, 5, 4), on(0, 11, 9), on(0, 12, 10))})
	for _, a := range []api.Content{kids(3, 5), kids(3, 5, 6), kids(3, 5, 6, 7)} {
		for _, b := range []api.Content{kids(9, 12), kids(9, 12, 13), kids(9, 12, 13, 14)} {
			if size(a)+size(b) > 4 {
				refused(t, "more than a full one", join(t, a, b, key(0, 9)), api.ErrFull)
			}
		}
	}
}

// P11.4: what would come does not rise, or has a page twice; that is ErrArg, but behind ErrFull.
func TestJoinOfWhatMayNotBe(t *testing.T) {
	a, b := kids(3, 5), kids(9, 12)
	for _, k := range []api.Key{key(0, 0), key(0, 4), key(0, 5), key(0, 12), key(0, 13), key(1, 7), key(2, 65535), key(-1, 7), key(3, 7), key(256, 7), key(math.MaxInt, 7), key(math.MinInt, 7)} {
		refused(t, "of a step that does not rise", join(t, a, b, k), api.ErrArg)
	}
	refused(t, "turned round", join(t, b, a, key(0, 7)), api.ErrArg)
	for _, first := range []int{2, 3, 4} {
		refused(t, "a page twice", join(t, a, kids(first, 12), key(0, 7)), api.ErrArg)
	}
	refused(t, "the outer pages the same", join(t, a, inner(on(0, 0, 9), on(0, 12, 3)), key(0, 7)), api.ErrArg)
	refused(t, "itself", join(t, a, a, key(0, 7)), api.ErrArg)
	refused(t, "rows that fall", join(t, ids(5), ids(1, 2), key(0, 5)), api.ErrArg)
	refused(t, "a row twice", join(t, ids(1, 5), ids(5), key(0, 5)), api.ErrArg)
	refused(t, "a key twice", join(t, leaf(at(0, 5, 1, "")), leaf(at(0, 5, 2, "x")), key(0, 5)), api.ErrArg)
	refused(t, "rows that mingle", join(t, ids(1, 5), ids(3, 7), key(0, 3)), api.ErrArg)
	refused(t, "by table", join(t, leafOf(key(1, 1)), leafOf(key(0, 2)), key(0, 2)), api.ErrArg)
	refused(t, "too many that fall", join(t, ids(5, 6, 7), ids(1, 2), key(0, 5)), api.ErrFull)
	refused(t, "too many, a page twice", join(t, kids(3, 5, 6), kids(3, 12), key(0, 9)), api.ErrFull)
	refused(t, "too many, no step", join(t, kids(3, 5, 6), kids(9, 12), key(3, 9)), api.ErrFull)
}

// P11.4: free ones, and such of unlike Kinds, are neither joined nor levelled.
func TestNoPairs(t *testing.T) {
	some := []api.Content{free, {Rows: []api.Row{}, Kids: []api.Kid{}}, leaf(), ids(1), ids(1, 2, 3), ids(1, 2, 3, 4), kids(3, 5), kids(3, 5, 7), kids(3, 5, 7, 9)}
	for _, a := range some {
		for _, b := range some {
			if a.Kind == b.Kind && a.Kind != api.KindFree {
				continue
			}
			for _, k := range []api.Key{key(0, 0), key(0, 6), key(3, 0)} {
				refused(t, "Join", join(t, a, b, k), api.ErrArg)
				refused(t, "Level", level(t, a, b, k), api.ErrArg)
			}
		}
	}
}
