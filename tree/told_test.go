package tree_test

import (
	"math"
	"slices"
	"testing"

	"bursary/api"
	"bursary/row"
	"bursary/tree"
)

// P13.2: Rows of each good forest are all rows of its leaves, in order; whatever their pages' numbers.
func TestRows(t *testing.T) {
	for name, f := range goodForests() {
		check(t, name, rows(t, f), answer{rows: rowsByWords(f)})
	}
	check(t, "none", rows(t, tree.New()), answer{})
	check(t, "three deep", rows(t, forest(three())), answer{rows: ids(10, 11, 25, 30, 35, 45, 50, 51, 52, 65, 70, 85, 90).Rows})
	r := []api.Row{at(0, 0, math.MinInt64, "\x00"), at(1, 65535, -1, "12345678"), at(2, 65535, math.MaxInt64, "")}
	check(t, "as they are", rows(t, forest(pages{0: leaf(r...)})), answer{rows: r})
}

// P13.2: a forest may have more rows than a schema's tables.
func TestRowsOfVeryManyRows(t *testing.T) {
	for _, n := range []int{4, 64, 96} {
		var kids []node
		for range n / 8 {
			kids = append(kids, nd(lfs(4, 4)...))
		}
		shape := lf(4)
		if len(kids) > 0 {
			shape = nd(nd(kids[:len(kids)/4]...), nd(kids[len(kids)/4:len(kids)/2]...), nd(kids[len(kids)/2:len(kids)*3/4]...), nd(kids[len(kids)*3/4:]...))
		}
		f := plain(shape)
		if got := rows(t, f); len(got.rows) != n || !slices.Equal(got.rows, rowsByWords(f)) {
			t.Fatalf("%v are the rows, want %d", got, n)
		}
	}
}

// around are the keys of rows, and those just below, and just above each.
func around(l []api.Row) []api.Key {
	out := slices.Clone(someKeys)
	for _, r := range l {
		for d := range 3 {
			out = append(out, api.Key{Table: r.Key.Table, Id: r.Key.Id + uint16(d) - 1})
		}
	}
	slices.SortFunc(out, row.Compare)
	return slices.Compact(out)
}

// P13.2: Get of each key that is there is its row; of each other one, below, between and above, ErrNone.
func TestGet(t *testing.T) {
	for name, f := range goodForests() {
		all := rowsByWords(f)
		for _, k := range around(all) {
			want := answer{e: api.ErrNone}
			if i := slices.IndexFunc(all, func(r api.Row) bool { return r.Key == k }); i >= 0 {
				want = answer{row: all[i]}
			}
			check(t, name, get(t, f, k), want)
		}
	}
}

// P13.2: a key that is between the rows of two leaves, on either side of the Least between them, is not there.
func TestGetBetweenLeaves(t *testing.T) {
	f := forest(three())
	for _, id := range []uint16{12, 19, 20, 24, 36, 39, 40, 44, 53, 59, 60, 64, 71, 79, 80, 84} {
		refused(t, "Get", get(t, f, key(0, id)), api.ErrNone)
	}
	check(t, "the last one ahead", get(t, f, key(0, 35)), answer{row: rowOf(key(0, 35))})
	check(t, "the first one behind", get(t, f, key(0, 45)), answer{row: rowOf(key(0, 45))})
}

// P13.2: Free and Depth of each good forest.
func TestFreeAndDepth(t *testing.T) {
	for name, f := range goodForests() {
		if got, want := freeOf(t, f), len(handOver(f).unused()); got != want {
			t.Errorf("%s: Free is %d, want %d", name, got, want)
		}
		ways, _ := waysByWords(f)
		for num, way := range ways {
			if f.Pages[num].Kind == api.KindLeaf && depth(t, f) != len(way)+1 {
				t.Fatalf("%s: Depth is %d, want %d", name, depth(t, f), len(way)+1)
			}
		}
	}
	for n := 1; n <= 6; n++ {
		f := plain(least(n))
		if depth(t, f) != n || freeOf(t, f) != 64-(1<<n-1) {
			t.Errorf("%d deep: Depth is %d, Free is %d", n, depth(t, f), freeOf(t, f))
		}
	}
	if f := tree.New(); depth(t, f) != 1 || freeOf(t, f) != 63 {
		t.Errorf("New: Depth is %d, Free is %d", depth(t, f), freeOf(t, f))
	}
	if f := goodForests()["as many pages as there may be"]; depth(t, f) != 4 || freeOf(t, f) != 0 {
		t.Errorf("all pages: Depth is %d, Free is %d", depth(t, f), freeOf(t, f))
	}
}

// P13.2: many forests, held against the words.
func TestToldOfMany(t *testing.T) {
	var d dice
	for range 700 {
		f := d.anyForest()
		all := rowsByWords(f)
		check(t, "Rows", rows(t, f), answer{rows: all})
		if got, want := freeOf(t, f), len(handOver(f).unused()); got != want {
			t.Fatalf("Free is %d, want %d", got, want)
		}
		for _, r := range all {
			got, e := tree.Get(f, r.Key)
			check(t, "Get", answer{row: got, e: e}, answer{row: r})
			for _, id := range []uint16{r.Key.Id - 1 - uint16(d.throw(9)), r.Key.Id + 1 + uint16(d.throw(9))} {
				got, e = tree.Get(f, key(r.Key.Table, id))
				refused(t, "Get", answer{row: got, e: e}, api.ErrNone)
			}
		}
	}
}
