package ideal_test

import (
	"fmt"
	"math"
	"slices"
	"testing"

	"bursary/api"
)

// doing is a request, what it is to be answered, and which rows it is to leave; nil rows are those that there were.
type doing struct {
	name string
	q    api.Request
	want api.Answer
	left []api.Row
}

// few are rows of three, few of each table.
func few() []api.Row {
	return rows(at(0, 1, 4, "a"), at(0, 2, 9, "b"), at(0, 7, 0, ""), at(1, 1, math.MaxInt64, "c"), at(1, 2, math.MinInt64, ""), at(1, 9, -1, "d"), at(2, 1, 5, long(8)), at(2, 65535, -5, "e"))
}

// with is few rows, of which some have become these.
func with(other ...api.Row) []api.Row {
	l := few()
	for _, o := range other {
		i := slices.IndexFunc(l, func(r api.Row) bool { return r.Key == o.Key })
		l[i] = o
	}
	return l
}

// absent are keys that may be of three, of which few rows has none.
var absent = []api.Key{key(0, 0), key(0, 3), key(0, 65535), key(1, 0), key(1, 7), key(2, 2), key(2, 7)}

// reading are requests that read, of few rows.
func reading() []doing {
	out := []doing{
		{"the first table", scan(0), tells(few()[:3]...), nil},
		{"the middle one", scan(1), tells(few()[3:6]...), nil},
		{"the last one", scan(2), tells(few()[6:]...), nil},
	}
	for _, r := range few() {
		out = append(out, doing{"a row", read(r.Key), tells(r), nil})
	}
	for _, k := range absent {
		out = append(out, doing{"no row", read(k), fails(api.ErrNone), nil})
	}
	return out
}

// inserting are Inserts and Deletes, of few rows.
func inserting() []doing {
	l := few()
	out := []doing{
		{"ahead of all", insert(key(0, 0), 10, "n"), fine, slices.Insert(few(), 0, at(0, 0, 10, "n"))},
		{"between two", insert(key(0, 3), 0, long(8)), fine, slices.Insert(few(), 2, at(0, 3, 0, long(8)))},
		{"between two tables", insert(key(1, 0), math.MinInt64, ""), fine, slices.Insert(few(), 3, at(1, 0, math.MinInt64, ""))},
		{"behind another table", insert(key(1, 10), math.MaxInt64, ""), fine, slices.Insert(few(), 6, at(1, 10, math.MaxInt64, ""))},
		{"in the last table", insert(key(2, 65534), -5, "z"), fine, slices.Insert(few(), 7, at(2, 65534, -5, "z"))},
		{"above the bounds", insert(key(0, 3), 11, ""), fails(api.ErrBound), nil},
		{"below the bounds", insert(key(0, 3), -1, ""), fails(api.ErrBound), nil},
		{"far above", insert(key(0, 3), math.MaxInt64, ""), fails(api.ErrBound), nil},
		{"far below", insert(key(0, 3), math.MinInt64, ""), fails(api.ErrBound), nil},
		{"bounds of another table", insert(key(2, 3), 6, ""), fails(api.ErrBound), nil},
		{"ErrBound ahead of ErrThere", insert(key(0, 1), 11, ""), fails(api.ErrBound), nil},
		{"the same row", insert(l[0].Key, l[0].Val, l[0].Note), fails(api.ErrThere), nil},
	}
	for i, r := range l {
		out = append(out,
			doing{"a key that is there", insert(r.Key, 0, "other"), fails(api.ErrThere), nil},
			doing{"a row", remove(r.Key), fine, slices.Delete(few(), i, i+1)})
	}
	for _, k := range absent {
		out = append(out, doing{"no row", remove(k), fails(api.ErrNone), nil})
	}
	return out
}

// changing are Notes and Sets, of few rows.
func changing() []doing {
	out := []doing{
		{"the least value", set(key(0, 2), 0), fine, with(at(0, 2, 0, "b"))},
		{"the greatest value", set(key(0, 2), 10), fine, with(at(0, 2, 10, "b"))},
		{"the same value", set(key(0, 2), 9), fine, nil},
		{"the least of all", set(key(1, 1), math.MinInt64), fine, with(at(1, 1, math.MinInt64, "c"))},
		{"the greatest of all", set(key(1, 9), math.MaxInt64), fine, with(at(1, 9, math.MaxInt64, "d"))},
		{"one above", set(key(0, 2), 11), fails(api.ErrBound), nil},
		{"one below", set(key(0, 2), -1), fails(api.ErrBound), nil},
		{"far above", set(key(0, 2), math.MaxInt64), fails(api.ErrBound), nil},
		{"far below", set(key(2, 1), math.MinInt64), fails(api.ErrBound), nil},
		{"bounds of another table", set(key(2, 1), 6), fails(api.ErrBound), nil},
		{"ErrBound ahead of ErrNone", set(key(0, 3), 11), fails(api.ErrBound), nil},
		{"the same note", note(key(0, 1), "a"), fine, nil},
	}
	for _, r := range few() {
		for _, text := range []string{"", "x", long(8), "\xff\x00"} {
			out = append(out, doing{"a note", note(r.Key, text), fine, with(api.Row{Key: r.Key, Val: r.Val, Note: text})})
		}
		out = append(out, doing{"a value", set(r.Key, 3), fine, with(api.Row{Key: r.Key, Val: 3, Note: r.Note})})
	}
	for _, k := range absent {
		out = append(out, doing{"no row", note(k, "x"), fails(api.ErrNone), nil}, doing{"no row", set(k, 0), fails(api.ErrNone), nil})
	}
	return out
}

// adding are Adds, of few rows; what goes round would be within the bounds of table 1.
func adding() []doing {
	out := []doing{
		{"up to the greatest", add(key(0, 1), 6), fine, with(at(0, 1, 10, "a"))},
		{"one more", add(key(0, 1), 7), fails(api.ErrBound), nil},
		{"down to the least", add(key(0, 1), -4), fine, with(at(0, 1, 0, "a"))},
		{"one less", add(key(0, 1), -5), fails(api.ErrBound), nil},
		{"bounds of another table", add(key(2, 1), 1), fails(api.ErrBound), nil},
		{"from end to end", add(key(2, 1), -10), fine, with(at(2, 1, -5, long(8)))},
		{"up and round", add(key(1, 1), 1), fails(api.ErrBound), nil},
		{"far up and round", add(key(1, 1), math.MaxInt64), fails(api.ErrBound), nil},
		{"down and round", add(key(1, 2), -1), fails(api.ErrBound), nil},
		{"far down and round", add(key(1, 2), math.MinInt64), fails(api.ErrBound), nil},
		{"round into few values", add(key(0, 2), math.MaxInt64), fails(api.ErrBound), nil},
		{"far below few values", add(key(0, 2), math.MinInt64), fails(api.ErrBound), nil},
		{"all the way up", add(key(1, 2), math.MaxInt64), fine, with(at(1, 2, -1, ""))},
		{"all the way down", add(key(1, 1), math.MinInt64), fine, with(at(1, 1, -1, "c"))},
		{"to the greatest of all", add(key(1, 9), math.MaxInt64), fine, with(at(1, 9, math.MaxInt64-1, "d"))},
		{"one too far down", add(key(1, 9), math.MinInt64), fails(api.ErrBound), nil},
		{"just not too far", add(key(1, 9), math.MinInt64+1), fine, with(at(1, 9, math.MinInt64, "d"))},
	}
	for _, r := range few() {
		out = append(out, doing{"nought", add(r.Key, 0), fine, nil})
	}
	for _, k := range absent {
		for _, val := range []int64{0, 1, 99, math.MaxInt64, math.MinInt64} {
			out = append(out, doing{"no row", add(k, val), fails(api.ErrNone), nil})
		}
	}
	return out
}

// moving are Moves, of few rows.
func moving() []doing {
	a, b, z := key(0, 1), key(0, 2), key(0, 7) // 4, 9, 0
	out := []doing{
		{"down to the least", move(a, z, 4), fine, with(at(0, 1, 0, "a"), at(0, 7, 4, ""))},
		{"one more", move(a, z, 5), fails(api.ErrBound), nil},
		{"up to the greatest", move(a, b, 1), fine, with(at(0, 1, 3, "a"), at(0, 2, 10, "b"))},
		{"one more there", move(a, b, 2), fails(api.ErrBound), nil},
		{"one too many on both sides", move(a, b, 5), fails(api.ErrBound), nil},
		{"back", move(b, a, 6), fine, with(at(0, 1, 10, "a"), at(0, 2, 3, "b"))},
		{"nought", move(a, b, 0), fine, nil},
		{"nought from the least", move(z, b, 0), fine, nil},
		{"to another table", move(a, key(2, 65535), 4), fine, with(at(0, 1, 0, "a"), at(2, 65535, -1, "e"))},
		{"from the last to the first", move(key(2, 1), a, 6), fine, with(at(0, 1, 10, "a"), at(2, 1, -1, long(8)))},
		{"from the first to the last", move(a, key(2, 65535), 3), fine, with(at(0, 1, 1, "a"), at(2, 65535, -2, "e"))},
		{"to the last, too full", move(a, key(2, 1), 1), fails(api.ErrBound), nil},
		{"the same Id of two tables", move(key(1, 1), key(0, 1), 6), fine, with(at(0, 1, 10, "a"), at(1, 1, math.MaxInt64-6, "c"))},
		{"down and round", move(key(1, 2), a, 1), fails(api.ErrBound), nil},
		{"up and round", move(a, key(1, 1), 1), fails(api.ErrBound), nil},
		{"as far as it goes", move(key(1, 1), key(1, 2), math.MaxInt64), fine, with(at(1, 1, 0, "c"), at(1, 2, -1, ""))},
		{"both go round", move(key(1, 2), key(1, 1), math.MaxInt64), fails(api.ErrBound), nil},
		{"far, from -1", move(key(1, 9), key(1, 2), math.MaxInt64), fine, with(at(1, 9, math.MinInt64, "d"), at(1, 2, -1, ""))},
		{"far, out of few values", move(a, key(1, 2), math.MaxInt64), fails(api.ErrBound), nil},
		{"far, into few values", move(key(1, 1), b, math.MaxInt64), fails(api.ErrBound), nil},
	}
	for _, k := range absent {
		for _, val := range []int64{0, 1, 99, math.MaxInt64} {
			out = append(out, doing{"from no row", move(k, a, val), fails(api.ErrNone), nil}, doing{"to no row", move(a, k, val), fails(api.ErrNone), nil},
				doing{"from no row to none", move(k, key(0, 77), val), fails(api.ErrNone), nil}, doing{"from none to no row", move(key(0, 77), k, val), fails(api.ErrNone), nil})
		}
	}
	return out
}

// allDoings are requests of all Kinds that can be done to few rows.
func allDoings() []doing {
	out := slices.Concat(reading(), inserting(), changing(), adding(), moving())
	for i, d := range out {
		if d.left == nil {
			out[i].left = few()
		}
	}
	return out
}

// P15.3: each Kind, with each of its answers.
func TestDo(t *testing.T) {
	for _, d := range allDoings() {
		checkDo(t, d.name, three, few(), d.q, d.left, d.want)
	}
}

// P15.3: a request in which what does not count is not zero may not be, whatever it would come to.
func TestDoOfWhatDoesNotCount(t *testing.T) {
	for _, d := range allDoings() {
		for _, q := range littered(d.q) {
			checkDo(t, d.name+", littered", three, few(), q, few(), fails(api.ErrRequest))
		}
	}
	for _, q := range []api.Request{insert(key(0, 0), 5, "a"), remove(full()[0].Key), scan(0)} {
		for _, p := range littered(q) {
			checkDo(t, "of a full list", three, full(), p, full(), fails(api.ErrRequest))
		}
	}
}

// P15.3: of no rows there is nothing to read or change, and everything to insert.
func TestDoOfNoRows(t *testing.T) {
	for _, l := range [][]api.Row{nil, {}} {
		for table := range three.Tables {
			k := key(table, 7)
			checkDo(t, "none", three, l, scan(table), nil, fine)
			for _, q := range []api.Request{read(k), remove(k), note(k, "a"), set(k, 1), add(k, 1), move(k, key(0, 1), 1)} {
				checkDo(t, "none", three, l, q, nil, fails(api.ErrNone))
			}
			checkDo(t, "none", three, l, insert(k, 5, "a"), rows(at(table, 7, 5, "a")), fine)
			checkDo(t, "none", three, l, insert(key(0, 7), 11, "a"), nil, fails(api.ErrBound))
		}
	}
}

// P15.3: tables without rows beside such as have some, and one that has all of them.
func TestScanOfTables(t *testing.T) {
	for table := range three.Tables {
		l := rows(at(table, 0, 1, "a"), at(table, 7, 2, ""), at(table, 65535, 0, "b"))
		for other := range three.Tables {
			want := fine
			if other == table {
				want = tells(l...)
			}
			checkDo(t, "rows of one table", three, l, scan(other), l, want)
		}
	}
	var all []api.Row
	for i := range api.MaxRows {
		all = append(all, at(0, uint16(i), 1, ""))
	}
	checkDo(t, "all rows", example, all, scan(0), all, tells(all...))
	for i, n := 0, 0; i < 3; i++ {
		checkDo(t, "a part of all", three, full(), scan(i), full(), tells(full()[n:n+20]...))
		n += 20
	}
}

// P15.3: a list of as many rows as there may be: none comes, all else goes.
func TestDoOfAFullList(t *testing.T) {
	l := full()
	for _, k := range []api.Key{key(0, 0), key(1, 0), key(2, 65535)} {
		checkDo(t, "no room", three, l, insert(k, 5, "a"), l, fails(api.ErrFull))
	}
	checkDo(t, "ErrBound ahead of ErrFull", three, l, insert(key(0, 0), 11, ""), l, fails(api.ErrBound))
	for i, r := range l {
		checkDo(t, "ErrThere ahead of ErrFull", three, l, insert(r.Key, 5, "a"), l, fails(api.ErrThere))
		other := slices.Clone(l)
		other[i].Note = "other"
		checkDo(t, "a note", three, l, note(r.Key, "other"), other, fine)
		other = slices.Clone(l)
		other[i].Val = 5
		checkDo(t, "a value", three, l, set(r.Key, 5), other, fine)
		checkDo(t, "a sum", three, l, add(r.Key, 5-r.Val), other, fine)
		less := slices.Delete(slices.Clone(l), i, i+1)
		checkDo(t, "a row less", three, l, remove(r.Key), less, fine)
		checkDo(t, "and it again", three, less, insert(r.Key, r.Val, r.Note), l, fine)
	}
	moved := slices.Clone(l)
	moved[59].Val, moved[54].Val = 0, 5
	checkDo(t, "from the last one", three, l, move(l[59].Key, l[54].Key, 5), moved, fine)
}

// P15.3: Moves from each row to each other one, among them the first and the last one.
func TestMoveFromEachToEach(t *testing.T) {
	var l []api.Row
	for i := range 12 {
		l = append(l, at(i/4, uint16(i), 2, ""))
	}
	for i, r := range l {
		for j, other := range l {
			if i == j {
				continue
			}
			want := slices.Clone(l)
			want[i].Val, want[j].Val = 0, 4
			checkDo(t, "Move", three, l, move(r.Key, other.Key, 2), want, fine)
			if i < 4 || 8 <= j {
				checkDo(t, "Move of too much", three, l, move(r.Key, other.Key, 9), l, fails(api.ErrBound))
			}
		}
	}
}

// P15.3: tables whose bounds lie at the ends of 64 bits: what goes round would be within some.
func TestDoAtTheEnds(t *testing.T) {
	least, most, seven := key(0, 1), key(1, 1), key(2, 1)
	l := rows(at(0, 1, math.MinInt64+2, ""), at(1, 1, math.MaxInt64-2, ""), at(2, 1, 7, ""))
	others := func(a, b, c int64) []api.Row {
		return rows(at(0, 1, a, ""), at(1, 1, b, ""), at(2, 1, c, ""))
	}
	checkDo(t, "down to the end", ends, l, add(least, -2), others(math.MinInt64, math.MaxInt64-2, 7), fine)
	checkDo(t, "up to the end", ends, l, add(most, 2), others(math.MinInt64+2, math.MaxInt64, 7), fine)
	checkDo(t, "up to Max", ends, l, add(least, 3), others(math.MinInt64+5, math.MaxInt64-2, 7), fine)
	checkDo(t, "down to Min", ends, l, add(most, -3), others(math.MinInt64+2, math.MaxInt64-5, 7), fine)
	checkDo(t, "nought to seven", ends, l, add(seven, 0), l, fine)
	checkDo(t, "from end to end", ends, others(math.MinInt64+5, math.MaxInt64-5, 7), move(least, most, 5), others(math.MinInt64, math.MaxInt64, 7), fine)
	for _, q := range []api.Request{add(least, -3), add(most, 3), add(least, 4), add(most, -4), add(seven, 1), add(seven, -1), add(seven, math.MaxInt64), add(seven, math.MinInt64),
		add(least, math.MinInt64), add(most, math.MaxInt64), add(most, math.MinInt64), add(least, math.MaxInt64),
		set(least, math.MinInt64+6), set(most, math.MaxInt64-6), set(seven, 8), set(seven, 6), set(least, math.MaxInt64), set(most, math.MinInt64),
		move(least, most, 3), move(most, least, 4), move(least, seven, 1), move(seven, least, 1), move(least, most, math.MaxInt64), move(most, least, math.MaxInt64)} {
		checkDo(t, "beyond", ends, l, q, l, fails(api.ErrBound))
	}
}

// P15.3: requests that may not be, and those that are none of ReqRead to ReqMove, ahead of what they would come to.
func TestDoOfRequestsThatMayNotBe(t *testing.T) {
	for _, l := range [][]api.Row{nil, few(), full()} {
		for _, q := range badRequests() {
			checkDo(t, "may not be", three, l, q, l, fails(api.ErrRequest))
		}
		for _, q := range []api.Request{mark(), back(1), back(8), back(math.MaxInt), back(0), commit(), abort()} {
			checkDo(t, "of a transaction", three, l, q, l, fails(api.ErrRequest))
			for _, p := range littered(q) {
				checkDo(t, "of a transaction", three, l, p, l, fails(api.ErrRequest))
			}
		}
	}
}

// P15.3: ErrRow ahead of ErrRequest, and of what the request comes to; the rows are as they were, though they may not be.
func TestDoOfRowsThatMayNotBe(t *testing.T) {
	for name, l := range badLists() {
		for _, q := range slices.Concat(goodRequests(), badRequests()) {
			checkDo(t, name, three, l, q, l, fails(api.ErrRow))
		}
	}
}

// P15.3: ErrSchema ahead of all else.
func TestDoOfASchemaThatMayNotBe(t *testing.T) {
	for name, s := range badSchemas() {
		for what, l := range map[string][]api.Row{"none": nil, "few": few(), "a key twice": rows(few()[0], few()[0]), "no such table": rows(at(3, 1, 1, ""))} {
			for _, q := range slices.Concat(goodRequests(), badRequests()) {
				checkDo(t, fmt.Sprint(name, ", ", what), s, l, q, l, fails(api.ErrSchema))
			}
		}
	}
}
