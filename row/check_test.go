package row_test

import (
	"math"
	"slices"
	"testing"

	"bursary/api"
	"bursary/row"
)

// P5.1: from one table to MaxTables, of bounds of all kinds that may be.
func TestCheck(t *testing.T) {
	some := []api.Bounds{
		{}, {Min: 0, Max: 10}, {Min: -5, Max: 5}, {Min: -9, Max: -8}, {Min: 7, Max: 7}, {Min: -7, Max: -7},
		{Min: math.MinInt64, Max: math.MaxInt64}, {Min: math.MinInt64, Max: math.MinInt64}, {Min: math.MaxInt64, Max: math.MaxInt64},
		{Min: math.MaxInt64 - 1, Max: math.MaxInt64}, {Min: math.MinInt64, Max: math.MinInt64 + 1},
	}
	for _, a := range some {
		expect(t, "one table", row.Check(api.Schema{Tables: []api.Bounds{a}}), api.OK)
		for _, b := range some {
			expect(t, "two tables", row.Check(api.Schema{Tables: []api.Bounds{a, b}}), api.OK)
			expect(t, "three tables", row.Check(api.Schema{Tables: []api.Bounds{a, b, a}}), api.OK)
			expect(t, "four tables", row.Check(api.Schema{Tables: []api.Bounds{a, b, a, b}}), api.ErrSchema)
		}
	}
	if api.MaxTables != 3 {
		t.Fatal("this test asks for MaxTables of 3")
	}
}

// P5.1: schemas that may not be; all calls that take one and answer an error say so, ahead of all else.
func TestCheckOfBadSchemas(t *testing.T) {
	keys := []api.Key{{}, key(1, 1), key(-1, 0), key(math.MinInt, 0), key(math.MaxInt, 65535), key(300, 0)}
	rows := []api.Row{{}, at(1, 1, 1, ""), at(0, 0, 11, ""), at(0, 0, 0, long(9)), at(-1, 0, 11, long(9)), at(math.MaxInt, 0, 0, "")}
	lists := [][]api.Row{nil, {at(0, 1, 1, "")}, {at(4, 1, 1, "")}, listOf(api.MaxRows), listOf(api.MaxRows + 1)}
	for name, s := range badSchemas() {
		expect(t, name+": Check", row.Check(s), api.ErrSchema)
		for _, k := range keys {
			expect(t, name+": CheckKey", row.CheckKey(s, k), api.ErrSchema)
		}
		for _, r := range rows {
			expect(t, name+": CheckRow", row.CheckRow(s, r), api.ErrSchema)
		}
		for _, l := range lists {
			expect(t, name+": CheckList", row.CheckList(s, l), api.ErrSchema)
			for _, r := range rows {
				refusedPut(t, name, s, l, r, api.ErrSchema)
			}
			for _, k := range keys {
				refusedTake(t, name, s, l, k, api.ErrSchema)
			}
		}
	}
}

// P5.1: a key may be, if its table is there, whatever its Id.
func TestCheckKey(t *testing.T) {
	for n := 1; n <= api.MaxTables; n++ {
		s := api.Schema{Tables: wide.Tables[:n]}
		for _, table := range []int{math.MinInt, -256, -2, -1, 0, 1, 2, 3, 4, 256, 1 << 16, 1 << 32, 1<<32 + 1, math.MaxInt} {
			want := api.ErrRow
			if table >= 0 && table < n {
				want = api.OK
			}
			for _, id := range []uint16{0, 1, 7, 32767, 32768, 65534, 65535} {
				expect(t, "CheckKey", row.CheckKey(s, key(table, id)), want)
			}
		}
	}
}

// P5.1: of a row's value the bounds of its own table count, both of them among what may be.
func TestCheckRowOfBounds(t *testing.T) {
	for _, q := range []struct {
		table int
		val   int64
		want  api.Errno
	}{
		{0, math.MinInt64, api.OK}, {0, -1, api.OK}, {0, 0, api.OK}, {0, math.MaxInt64, api.OK},
		{1, 6, api.ErrBound}, {1, 7, api.OK}, {1, 8, api.ErrBound}, {1, math.MinInt64, api.ErrBound}, {1, math.MaxInt64, api.ErrBound}, {1, -7, api.ErrBound},
		{2, -6, api.ErrBound}, {2, -5, api.OK}, {2, 0, api.OK}, {2, 5, api.OK}, {2, 6, api.ErrBound}, {2, 7, api.ErrBound}, {2, math.MinInt64, api.ErrBound}, {2, math.MaxInt64, api.ErrBound},
	} {
		expect(t, "CheckRow", row.CheckRow(wide, at(q.table, 3, q.val, "")), q.want)
	}
	for _, x := range []int64{math.MinInt64, math.MinInt64 + 1, -1, 0, 1, math.MaxInt64 - 1, math.MaxInt64} {
		s := api.Schema{Tables: []api.Bounds{{Min: x, Max: x}}}
		for _, y := range []int64{math.MinInt64, math.MinInt64 + 1, -1, 0, 1, math.MaxInt64 - 1, math.MaxInt64} {
			want := api.ErrBound
			if x == y {
				want = api.OK
			}
			expect(t, "CheckRow", row.CheckRow(s, at(0, 0, y, "")), want)
		}
	}
}

// P5.1: notes are counted by bytes, whatever these are.
func TestCheckRowOfNotes(t *testing.T) {
	for n := range 300 {
		want := api.ErrLong
		if n <= api.MaxNote {
			want = api.OK
		}
		expect(t, "CheckRow", row.CheckRow(example, at(0, 7, 5, long(n))), want)
	}
	for note, want := range map[string]api.Errno{
		"\x00\x00\x00\x00\x00\x00\x00\x00":     api.OK,
		"\x00\x00\x00\x00\x00\x00\x00\x00\x00": api.ErrLong,
		"\xff\xfe\xff\xfe\xff\xfe\xff\xfe":     api.OK,
		"\u00e4\u00e4\u00e4\u00e4":             api.OK,
		"\u00e4\u00e4\u00e4\u00e4.":            api.ErrLong,
		"\u20ac\u20ac\u20ac":                   api.ErrLong,
	} {
		expect(t, "CheckRow of a note", row.CheckRow(example, at(1, 7, 5, note)), want)
	}
}

// wrongs are rows with all choices of what is wrong with them, and the error that comes first.
func wrongs() map[api.Row]api.Errno {
	out := map[api.Row]api.Errno{}
	for _, table := range []int{math.MinInt, -1, 0, 1, 2, math.MaxInt} {
		for _, n := range []int{0, 8, 9, 1000} {
			for _, val := range []int64{math.MinInt64, -6, -5, 0, 5, 6, 10, 11, math.MaxInt64} {
				r := at(table, 7, val, long(n))
				switch {
				case table < 0 || table > 1:
					out[r] = api.ErrRow
				case n > 8:
					out[r] = api.ErrLong
				case table == 0 && (val < 0 || val > 10), table == 1 && (val < -5 || val > 5):
					out[r] = api.ErrBound
				default:
					out[r] = api.OK
				}
			}
		}
	}
	return out
}

// P5.1: a key that may not be goes ahead of a note too long, and that ahead of a value outside the bounds.
func TestCheckRowErrorsInOrder(t *testing.T) {
	seen := map[api.Errno]int{}
	for r, want := range wrongs() {
		expect(t, "CheckRow", row.CheckRow(example, r), want)
		seen[want]++
	}
	if len(seen) != 4 {
		t.Fatalf("errors: %v", seen)
	}
}

// P5.1: lists that may be: of none, of one, of MaxRows.
func TestCheckList(t *testing.T) {
	expect(t, "nil", row.CheckList(example, nil), api.OK)
	for _, l := range goodLists() {
		expect(t, "CheckList", row.CheckList(example, l), api.OK)
	}
	one := func(r api.Row) []api.Row { return []api.Row{r} }
	for r, want := range wrongs() {
		if want != api.OK {
			want = api.ErrRow // of a list, whatever is wrong with the row
		}
		expect(t, "a list of one", row.CheckList(example, one(r)), want)
	}
}

// P5.1: lists that may not be; Put and Take say so, too, whatever else they are handed.
func TestCheckListOfBadLists(t *testing.T) {
	for name, l := range badLists() {
		expect(t, name+": CheckList", row.CheckList(example, l), api.ErrRow)
		for r := range wrongs() {
			refusedPut(t, name, example, l, r, api.ErrRow)
			refusedTake(t, name, example, l, r.Key, api.ErrRow)
		}
		for _, r := range l { // mended by the call, the list would still not be one
			refusedPut(t, name, example, l, r, api.ErrRow)
			refusedTake(t, name, example, l, r.Key, api.ErrRow)
		}
	}
}

// P5.1: what is wrong is seen at each place of a list of each length.
func TestCheckListAtEachPlace(t *testing.T) {
	for n := 1; n <= api.MaxRows; n++ {
		for i := range n {
			for _, spoil := range []func(r *api.Row){
				func(r *api.Row) { r.Key.Table = -1 },
				func(r *api.Row) { r.Key.Table = 2 },
				func(r *api.Row) { r.Val = 11 },
				func(r *api.Row) { r.Val = -6 },
				func(r *api.Row) { r.Note = long(9) },
			} {
				l := listOf(n)
				spoil(&l[i])
				expect(t, "a row spoilt", row.CheckList(example, l), api.ErrRow)
			}
			if i == 0 {
				continue
			}
			l := listOf(n)
			l[i-1], l[i] = l[i], l[i-1]
			expect(t, "two rows exchanged", row.CheckList(example, l), api.ErrRow)
			l = listOf(n)
			l[i].Key = l[i-1].Key
			expect(t, "a key twice", row.CheckList(example, l), api.ErrRow)
		}
	}
}

// P5.1: MaxRows is for all tables together.
func TestCheckListOfManyRows(t *testing.T) {
	for ahead := range api.MaxRows + 2 {
		var l []api.Row
		for i := range api.MaxRows + 1 {
			table := 0
			if i >= ahead {
				table = 2
			}
			l = append(l, at(table, uint16(i), 0, ""))
		}
		expect(t, "a row too many", row.CheckList(wide, l), api.ErrRow)
		expect(t, "without the first", row.CheckList(wide, l[1:]), api.OK)
		expect(t, "without the last", row.CheckList(wide, l[:api.MaxRows]), api.OK)
	}
}

// P5.1, R3: what is handed in stays.
func TestChecksChangeNothing(t *testing.T) {
	tables := slices.Clone(example.Tables)
	for _, l := range append(goodLists(), badLists()["falling"], badLists()["a row too many"]) {
		in := roomy(l)
		row.CheckList(example, in)
		checkUntouched(t, "CheckList", in, l)
	}
	for r := range wrongs() {
		row.CheckRow(example, r)
		row.CheckKey(example, r.Key)
	}
	row.Check(example)
	if !slices.Equal(example.Tables, tables) {
		t.Fatalf("the schema is %v now", example)
	}
}
