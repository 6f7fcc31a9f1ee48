package page_test

import (
	"math"
	"slices"
	"testing"

	"bursary/api"
	"bursary/row"
)

// P11.2: the first row, one in between, the last one.
func TestGet(t *testing.T) {
	c := ids(1, 3, 5, 7)
	for i, id := range []uint16{1, 3, 5, 7} {
		check(t, "Get", get(t, c, key(0, id)), answer{row: c.Rows[i]})
	}
	check(t, "of one", get(t, ids(3), key(0, 3)), answer{row: rowOf(key(0, 3))})
	check(t, "a zero row", get(t, leaf(api.Row{}), key(0, 0)), answer{})
	r := at(2, 65535, math.MinInt64, "\xff\x00")
	check(t, "the last of all keys", get(t, leaf(at(1, 65535, 1, ""), r), r.Key), answer{row: r})
}

// P11.2: keys that are not there, ahead of all, between, behind all; of an empty leaf; of no table.
func TestGetOfNothing(t *testing.T) {
	for _, id := range []uint16{0, 2, 4, 6, 8, 65535} {
		refused(t, "Get", get(t, ids(1, 3, 5, 7), key(0, id)), api.ErrNone)
	}
	refused(t, "of another table", get(t, ids(1, 3), key(1, 1)), api.ErrNone)
	refused(t, "of another table, ahead", get(t, leafOf(key(1, 1), key(2, 1)), key(0, 1)), api.ErrNone)
	for _, k := range slices.Concat(someKeys, oddKeys) {
		refused(t, "of an empty leaf", get(t, leaf(), k), api.ErrNone)
	}
	for _, k := range oddKeys {
		refused(t, "of no table", get(t, ids(1, 2), k), api.ErrNone)
	}
}

// P11.2: Get of all leaves of few keys.
func TestGetOfMany(t *testing.T) {
	for _, c := range goodLeaves() {
		for _, k := range slices.Concat(someKeys, oddKeys) {
			want := answer{e: api.ErrNone}
			for _, r := range c.Rows {
				if r.Key == k {
					want = answer{row: r}
				}
			}
			check(t, "Get", get(t, c, k), want)
		}
	}
}

// puts is a leaf's rows, by the words, with a row put among them.
func puts(c api.Content, r api.Row) api.Content {
	out := leaf(r)
	for _, old := range c.Rows {
		if old.Key != r.Key {
			out.Rows = append(out.Rows, old)
		}
	}
	slices.SortFunc(out.Rows, func(a, b api.Row) int { return row.Compare(a.Key, b.Key) })
	return out
}

// P11.2: in the place of the first one, of one in between, of the last one; ahead of all, between, behind all; into an empty leaf.
func TestPut(t *testing.T) {
	r := at(0, 3, 99, "new")
	check(t, "into none", put(t, leaf(), r), answer{a: leaf(r)})
	check(t, "ahead", put(t, ids(5, 7), r), answer{a: leaf(r, rowOf(key(0, 5)), rowOf(key(0, 7)))})
	check(t, "between", put(t, ids(1, 7), r), answer{a: leaf(rowOf(key(0, 1)), r, rowOf(key(0, 7)))})
	check(t, "behind", put(t, ids(1, 2), r), answer{a: leaf(rowOf(key(0, 1)), rowOf(key(0, 2)), r)})
	check(t, "of the first", put(t, ids(3, 7, 9), r), answer{a: leaf(r, rowOf(key(0, 7)), rowOf(key(0, 9)))})
	check(t, "of one between", put(t, ids(1, 3, 9), r), answer{a: leaf(rowOf(key(0, 1)), r, rowOf(key(0, 9)))})
	check(t, "of the last", put(t, ids(1, 2, 3), r), answer{a: leaf(rowOf(key(0, 1)), rowOf(key(0, 2)), r)})
	check(t, "by its table", put(t, leafOf(key(0, 9), key(2, 1)), at(1, 5, 0, "")), answer{a: leaf(rowOf(key(0, 9)), at(1, 5, 0, ""), rowOf(key(2, 1)))})
}

// P11.2: a row of which one field alone is another one, or none.
func TestPutOfAKeyThatIsThere(t *testing.T) {
	c := leaf(at(0, 1, 1, "a"), at(0, 2, 2, "b"), at(1, 2, 3, "c"), at(2, 2, 4, "d"))
	for i, r := range c.Rows {
		for _, other := range []api.Row{r, {Key: r.Key, Val: -r.Val, Note: r.Note}, {Key: r.Key, Val: r.Val, Note: "z"}, {Key: r.Key}} {
			want := cloned(c)
			want.Rows[i] = other
			check(t, "Put", put(t, c, other), answer{a: want})
		}
	}
}

// P11.2: a full leaf takes a row whose key is there, at each place, and no other one.
func TestPutIntoAFullLeaf(t *testing.T) {
	c := ids(1, 3, 5, 7)
	for i, id := range []uint16{1, 3, 5, 7} {
		r := at(0, id, 1000, "eight by")
		want := cloned(c)
		want.Rows[i] = r
		check(t, "Put", put(t, c, r), answer{a: want})
	}
	for _, r := range []api.Row{at(0, 0, 0, ""), at(0, 2, 0, ""), at(0, 4, 0, ""), at(0, 8, 0, ""), at(1, 1, 0, ""), at(2, 65535, 0, "")} {
		refused(t, "Put", put(t, c, r), api.ErrFull)
	}
}

// P11.2: Put of all leaves of few keys; a leaf grows till it is full.
func TestPutOfMany(t *testing.T) {
	for _, c := range goodLeaves() {
		for _, k := range someKeys {
			r := api.Row{Key: k, Val: math.MaxInt64, Note: "new"}
			want := answer{a: puts(c, r)}
			if size(want.a) > 4 {
				want = answer{e: api.ErrFull}
			}
			check(t, "Put", put(t, c, r), want)
		}
	}
}

// P11.2: a row that may not be laid: of no table, or of a note too long; of a full leaf too, whether its key is there or not.
func TestPutOfWrongRows(t *testing.T) {
	for _, c := range []api.Content{leaf(), ids(1), ids(1, 2, 3), ids(1, 2, 3, 4)} {
		for _, k := range oddKeys {
			refused(t, "of no table", put(t, c, api.Row{Key: k}), api.ErrRow)
			refused(t, "of no table, with a long note", put(t, c, api.Row{Key: k, Note: "nine byte"}), api.ErrRow)
		}
		for _, k := range []api.Key{key(0, 0), key(0, 1), key(0, 9), key(2, 65535)} {
			refused(t, "of nine bytes", put(t, c, api.Row{Key: k, Note: "nine byte"}), api.ErrRow)
			refused(t, "of nine bytes and five signs", put(t, c, api.Row{Key: k, Note: "\u00e4\u00e4\u00e4\u00e4."}), api.ErrRow)
		}
	}
	r := at(0, 1, 0, "eight by")
	check(t, "of eight bytes", put(t, leaf(), r), answer{a: leaf(r)})
}

// P11.2: the first row, one in between, the last one; and what is left.
func TestTake(t *testing.T) {
	c := ids(1, 3, 5, 7)
	check(t, "the first", take(t, c, key(0, 1)), answer{a: ids(3, 5, 7), row: rowOf(key(0, 1))})
	check(t, "the second", take(t, c, key(0, 3)), answer{a: ids(1, 5, 7), row: rowOf(key(0, 3))})
	check(t, "the third", take(t, c, key(0, 5)), answer{a: ids(1, 3, 7), row: rowOf(key(0, 5))})
	check(t, "the last", take(t, c, key(0, 7)), answer{a: ids(1, 3, 5), row: rowOf(key(0, 7))})
	check(t, "the only one", take(t, ids(3), key(0, 3)), answer{a: leaf(), row: rowOf(key(0, 3))})
	check(t, "a zero one", take(t, leaf(api.Row{}, rowOf(key(0, 1))), key(0, 0)), answer{a: ids(1)})
}

// P11.2: keys that are not there, ahead of all, between, behind all; of an empty leaf; of no table.
func TestTakeOfNothing(t *testing.T) {
	for _, id := range []uint16{0, 2, 4, 6, 8, 65535} {
		refused(t, "Take", take(t, ids(1, 3, 5, 7), key(0, id)), api.ErrNone)
	}
	refused(t, "of another table", take(t, ids(1, 3), key(1, 1)), api.ErrNone)
	for _, k := range slices.Concat(someKeys, oddKeys) {
		refused(t, "of an empty leaf", take(t, leaf(), k), api.ErrNone)
	}
	for _, k := range oddKeys {
		refused(t, "of no table", take(t, ids(1, 2), k), api.ErrNone)
	}
}

// P11.2: Take of all leaves of few keys.
func TestTakeOfMany(t *testing.T) {
	for _, c := range goodLeaves() {
		for _, k := range someKeys {
			want := answer{a: leaf(), e: api.ErrNone}
			for _, r := range c.Rows {
				if r.Key == k {
					want.row, want.e = r, api.OK
				} else {
					want.a.Rows = append(want.a.Rows, r)
				}
			}
			if want.e != api.OK {
				want = answer{e: api.ErrNone}
			}
			check(t, "Take", take(t, c, k), want)
		}
	}
}

// P11.2: inner pages and free ones are no leaves, whatever else is wrong.
func TestNoLeaves(t *testing.T) {
	for _, c := range slices.Concat([]api.Content{{}, free, {Rows: []api.Row{}, Kids: []api.Kid{}}}, goodInners(1), goodInners(60)) {
		for _, k := range slices.Concat(someKeys, oddKeys) {
			refused(t, "Get", get(t, c, k), api.ErrLeaf)
			refused(t, "Take", take(t, c, k), api.ErrLeaf)
			refused(t, "Put", put(t, c, api.Row{Key: k}), api.ErrLeaf)
			refused(t, "Put of a long note", put(t, c, api.Row{Key: k, Note: "nine byte"}), api.ErrLeaf)
		}
	}
}
