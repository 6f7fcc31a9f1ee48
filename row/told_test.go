package row_test

import (
	"math"
	"slices"
	"testing"

	"bursary/api"
	"bursary/row"
)

// P5.2: by Table, then by Id; of keys that may be of no schema, too.
func TestCompare(t *testing.T) {
	rising := []api.Key{
		key(math.MinInt, 0), key(math.MinInt, 65535), key(math.MinInt+1, 3), key(-2, 65535), key(-1, 0), key(-1, 1),
		key(0, 0), key(0, 1), key(0, 255), key(0, 256), key(0, 32767), key(0, 32768), key(0, 65535),
		key(1, 0), key(1, 7), key(2, 6), key(2, 65535), key(3, 0), key(1<<32, 1), key(1<<32+1, 0), key(math.MaxInt, 0), key(math.MaxInt, 1), key(math.MaxInt, 65535),
	}
	for i, a := range rising {
		for j, b := range rising {
			want := 0
			if i < j {
				want = -1
			} else if i > j {
				want = 1
			}
			if got := row.Compare(a, b); got != want {
				t.Fatalf("Compare(%v, %v): %d, want %d", a, b, got, want)
			}
		}
	}
}

// checkFind holds Find against what is wanted; -1 is none.
func checkFind(t *testing.T, l []api.Row, k api.Key, want int) {
	t.Helper()
	got, there := row.Find(l, k)
	if there != (want >= 0) || got != max(want, 0) {
		t.Fatalf("Find(%v, %v): %d, %t, want %d", l, k, got, there, want)
	}
}

// P5.2: each row of a list is found at its place, and no other key.
func TestFind(t *testing.T) {
	for _, l := range goodLists() {
		for i, r := range l {
			checkFind(t, l, r.Key, i)
		}
		for _, k := range keysAround(l) {
			if !has(l, k) {
				checkFind(t, l, k, -1)
			}
		}
		for _, k := range []api.Key{key(-1, 5), key(2, 5), key(math.MinInt, 5), key(math.MaxInt, 5)} {
			checkFind(t, l, k, -1)
		}
	}
	checkFind(t, nil, key(0, 0), -1)
	checkFind(t, []api.Row{{}}, key(0, 0), 0)
	checkFind(t, []api.Row{at(0, 5, 1, "")}, key(0, 5), 0)
	checkFind(t, []api.Row{at(0, 5, 1, "")}, key(1, 5), -1)
}

// everyList hands on all lists of up to 5 rows of four keys, in whatever order, each as often as there is room; unlike rows.
func everyList(use func(l []api.Row)) {
	keys := []api.Key{key(0, 1), key(0, 2), key(1, 1), key(-1, 2)}
	var more func(l []api.Row)
	more = func(l []api.Row) {
		use(l)
		if len(l) == 5 {
			return
		}
		for _, k := range keys {
			more(append(slices.Clone(l), api.Row{Key: k, Val: int64(len(l))}))
		}
	}
	more(nil)
}

// P5.2: of whatever list the first row of that key is found: out of order, and if it is there several times.
func TestFindInWhateverList(t *testing.T) {
	everyList(func(l []api.Row) {
		for _, k := range []api.Key{key(0, 1), key(0, 2), key(1, 1), key(-1, 2), key(1, 2), key(0, 0)} {
			want := -1
			for i := len(l) - 1; i >= 0; i-- {
				if rank(l[i].Key) == rank(k) {
					want = i
				}
			}
			checkFind(t, l, k, want)
		}
	})
	for n := 1; n < 200; n++ {
		l := slices.Repeat([]api.Row{at(1, 1, 0, "")}, n)
		checkFind(t, l, key(1, 1), 0)
		checkFind(t, l, key(1, 0), -1)
		l = listOf(n)
		slices.Reverse(l)
		for i, r := range l {
			checkFind(t, l, r.Key, i)
		}
		checkFind(t, l, key(5, 5), -1)
	}
	for name, l := range badLists() {
		for _, r := range l {
			i, there := row.Find(l, r.Key)
			if !there || l[i].Key != r.Key || has(l[:i], r.Key) {
				t.Fatalf("%s: Find(%v): %d, %t", name, r.Key, i, there)
			}
		}
	}
}

// ofTable is what Of is to tell.
func ofTable(l []api.Row, table int) []api.Row {
	return slices.DeleteFunc(slices.Clone(l), func(r api.Row) bool { return r.Key.Table != table })
}

// P5.2: the rows of a table, in their order; of lists that may be, and of whatever list.
func TestOf(t *testing.T) {
	check := func(l []api.Row) {
		for _, table := range []int{math.MinInt, -1, 0, 1, 2, 3, math.MaxInt} {
			if got, want := row.Of(l, table), ofTable(l, table); !slices.Equal(got, want) {
				t.Fatalf("Of(%v, %d): %v, want %v", l, table, got, want)
			}
		}
	}
	check(nil)
	for _, l := range goodLists() {
		check(l)
	}
	for _, l := range badLists() {
		check(l)
	}
	everyList(check)
	l := []api.Row{at(1, 9, 1, "a"), at(0, 5, 2, "b"), at(1, 3, 3, "c"), at(1, 9, 4, "d")}
	if got, want := row.Of(l, 1), []api.Row{l[0], l[2], l[3]}; !slices.Equal(got, want) {
		t.Fatalf("Of: %v, want %v", got, want)
	}
}

// P5.2, R3: what Of tells is new memory, and the list stays.
func TestOfIsNewMemory(t *testing.T) {
	for _, l := range goodLists() {
		for table := range 3 {
			in := roomy(l)
			out := row.Of(in, table)
			overwrite(out)
			checkUntouched(t, "Of", in, l)
			out = row.Of(in, table)
			want := slices.Clone(out)
			overwrite(in)
			if !slices.Equal(out, want) {
				t.Fatalf("behind a change of the list: %v, want %v", out, want)
			}
		}
	}
}

// P5.2: lists are the same, if all their rows are, field by field; nil and empty are the same.
func TestSame(t *testing.T) {
	check := func(a, b []api.Row, want bool) {
		t.Helper()
		if got := row.Same(a, b); got != want {
			t.Fatalf("Same(%v, %v): %t", a, b, got)
		}
		if got := row.Same(b, a); got != want {
			t.Fatalf("Same(%v, %v): %t", b, a, got)
		}
	}
	check(nil, nil, true)
	check(nil, []api.Row{}, true)
	check([]api.Row{}, []api.Row{}, true)
	check(nil, []api.Row{{}}, false)
	for n := range api.MaxRows + 5 {
		l := listOf(n)
		check(l, slices.Clone(l), true)
		check(l, roomy(l), true)
		check(l, listOf(n + 1)[1:], n == 0)
		for i := range n {
			check(l, slices.Delete(slices.Clone(l), i, i+1), false)
			check(l, l[:i], false)
			check(l[i:], l, i == 0)
			for _, change := range []func(r *api.Row){
				func(r *api.Row) { r.Key.Table++ },
				func(r *api.Row) { r.Key.Id ^= 1 << 15 },
				func(r *api.Row) { r.Val ^= 1 },
				func(r *api.Row) { r.Val ^= math.MinInt64 },
				func(r *api.Row) { r.Note += "\x00" },
				func(r *api.Row) { r.Note = "other" },
			} {
				other := slices.Clone(l)
				change(&other[i])
				check(l, other, false)
			}
		}
	}
	a, b := at(1, 1, 1, ""), at(0, 9, 9, long(20))
	check([]api.Row{a, b}, []api.Row{a, b}, true) // that it may not be a list does not matter
	check([]api.Row{a, b}, []api.Row{b, a}, false)
	check([]api.Row{a, a}, []api.Row{a, a}, true)
	check([]api.Row{a, a}, []api.Row{a}, false)
}
