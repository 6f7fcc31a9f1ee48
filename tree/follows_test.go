package tree_test

import (
	"maps"
	"slices"
	"testing"

	"bursary/api"
	"bursary/row"
	"bursary/tree"
)

// run is a row of Puts and Takes, one behind the other, in which each sentence of P13.5 is asked of each.
type run struct {
	f    api.Forest
	rows []api.Row // in order, by a plain list
	most int       // pages that one of them changed
	used int       // pages that were not free
	deep int
}

// newRun is a run from New on.
func newRun() *run {
	return &run{f: tree.New()}
}

// runOver is a run from some forest on.
func runOver(f api.Forest) *run {
	return &run{f: f, rows: rowsByWords(f)}
}

// put puts a row.
func (r *run) put(t *testing.T, one api.Row) {
	t.Helper()
	i, there := slices.BinarySearchFunc(r.rows, one.Key, func(r api.Row, k api.Key) int { return row.Compare(r.Key, k) })
	next := slices.Insert(slices.Clone(r.rows), i, one)
	if there {
		next = slices.Delete(next, i+1, i+2)
	}
	got, e := tree.Put(r.f, one)
	if e != api.OK {
		t.Fatalf("Put of %v into a forest of %d rows: error %d", one, len(r.rows), e)
	}
	r.goOn(t, got, next)
	check(t, "what was put", get(t, r.f, one.Key), answer{row: one})
}

// take takes the row of a key that is there.
func (r *run) take(t *testing.T, k api.Key) {
	t.Helper()
	i := slices.IndexFunc(r.rows, func(r api.Row) bool { return r.Key == k })
	got, was, e := tree.Take(r.f, k)
	if e != api.OK || was != r.rows[i] {
		t.Fatalf("Take of %v: %v, error %d, want %v", k, was, e, r.rows[i])
	}
	r.goOn(t, got, slices.Delete(slices.Clone(r.rows), i, i+1))
	refused(t, "what was taken", get(t, r.f, k), api.ErrNone)
}

// goOn goes on with what comes of groups, behind which there are these rows.
func (r *run) goOn(t *testing.T, l []api.Group, next []api.Row) {
	t.Helper()
	f := r.f
	for i, g := range l {
		got := apply(t, f, g)
		if got.e != api.OK {
			t.Fatalf("behind the group %d of %v there is no forest", i, l)
		}
		f = got.forest
		want := r.rows
		if i == len(l)-1 {
			want = next
		}
		check(t, "the rows behind a group", rows(t, f), answer{rows: want})
	}
	if n := len(l[len(l)-1].Sheets); n != 1 {
		t.Fatalf("the last group of %v changes %d pages", l, n)
	}
	all := net(t, l...)
	check(t, "all groups", apply(t, r.f, l...), answer{forest: f})
	check(t, "all groups at once", apply(t, r.f, sheets(all...)), answer{forest: f})
	if n := max(len(r.rows), len(next)); n <= api.MaxRows && len(all) > api.MaxPath {
		t.Fatalf("of %d rows %d pages were changed", n, len(all))
	}
	used := api.MaxPages - freeOf(t, f)
	if used > max(len(next), 1) {
		t.Fatalf("of %d rows %d pages are not free", len(next), used)
	}
	r.f, r.rows = f, next
	r.most, r.used, r.deep = max(r.most, len(all)), max(r.used, used), max(r.deep, depth(t, f))
}

// orders are orders of n numbers from 0 on: rising, falling, from both ends, from the middle, and mixed ones.
func orders(d *dice, n int) map[string][]int {
	out := map[string][]int{}
	for i := range n {
		out["rising"] = append(out["rising"], i)
		out["falling"] = append(out["falling"], n-1-i)
		ends, middle := i/2, (n-1)/2-i/2
		if i%2 == 1 {
			ends, middle = n-1-i/2, (n-1)/2+1+i/2
		}
		out["from both ends"] = append(out["from both ends"], ends)
		out["from the middle"] = append(out["from the middle"], middle)
	}
	for _, name := range []string{"mixed", "mixed anew"} {
		for _, i := range d.shuffled(n) {
			out[name] = append(out[name], i-1)
		}
	}
	return out
}

// spreadKey is the n-th key of a schema with three tables.
func spreadKey(n int) api.Key {
	return key(n/20, uint16(n%20*7))
}

// P13.5: MaxRows rows put, and taken, each in whichever order; some put again on the way.
func TestRowsPutAndTakenInOrders(t *testing.T) {
	var d dice
	all := orders(&d, api.MaxRows)
	names := slices.Sorted(maps.Keys(all))
	for _, how := range names {
		puts, r := all[how], newRun()
		for i, n := range puts {
			r.put(t, rowOf(spreadKey(n)))
			if i%3 == 0 {
				r.put(t, api.Row{Key: spreadKey(puts[d.throw(i+1)]), Val: int64(i), Note: how[:3]})
			}
		}
		if len(r.rows) != api.MaxRows || r.deep < 3 {
			t.Fatalf("%s: %d rows, %d deep", how, len(r.rows), r.deep)
		}
		for _, back := range names {
			s := runOver(r.f)
			for _, n := range all[back] {
				s.take(t, spreadKey(n))
			}
			if !alike(s.f, tree.New()) {
				t.Fatalf("put %s, taken %s: %v is left", how, back, s.f)
			}
		}
	}
}

// P13.5: long rows of Puts and Takes, in which there are more rows for a while, then fewer, up to MaxRows: Put is never refused.
func TestLongRowsOfPutsAndTakes(t *testing.T) {
	var d dice
	for round := range 3 {
		r := newRun()
		full, empty := 0, 0
		for n := range 1200 {
			grows := d.throw(10) < 3+4*(n/(80+30*round)%2)
			switch {
			case grows && len(r.rows) < api.MaxRows:
				k := key(d.throw(3), uint16(d.throw(30+100*round)))
				r.put(t, api.Row{Key: k, Val: int64(n), Note: "n"[:n%2]})
			case !grows && len(r.rows) > 0:
				r.take(t, r.rows[d.throw(len(r.rows))].Key)
			case grows:
				full++
			default:
				empty++
			}
		}
		if r.deep < 3 || r.most < 3 || full+empty == 0 {
			t.Fatalf("%d deep, %d pages changed, %d times full, %d times empty", r.deep, r.most, full, empty)
		}
	}
}

// P13.5: the forests of at most MaxRows rows with as few rows elsewhere as there may be, and all kinds of pages on the way: a Put is not refused below MaxRows, and neither Put nor Take changes more than 12 pages.
func TestPathsOfAllKinds(t *testing.T) {
	n := 0
	for _, fans := range allFans(1, 5) {
		if path(fans).rowsIn() > api.MaxRows {
			continue
		}
		n++
		f := plain(path(fans))
		if len(rowsByWords(f)) < api.MaxRows {
			runOver(f).put(t, rowOf(key(0, 11)))
		}
		r := runOver(f)
		r.take(t, nth(0))
		if r.most > 2*len(fans)+1 {
			t.Fatalf("%v: %d pages were changed", fans, r.most)
		}
	}
	if n < 100 {
		t.Fatalf("%d forests", n)
	}
}

// P13.5: so at every place of forests with as few pages as there may be, as deep as there may be, and of full ones.
func TestEveryPlace(t *testing.T) {
	var d dice
	shapes := []node{least(5), least(4), nd(each(2, 2, 2), each(2, 3, 2)), nd(lfs(4, 4, 4, 4)...), nd(nd(lfs(4, 4, 4)...), nd(lfs(4, 4, 4, 4)...), nd(lfs(2, 4, 2)...)), each(4, 4, 3)}
	for _, n := range shapes {
		f := mixed(&d, n)
		all := rowsByWords(f)
		if len(all) >= api.MaxRows {
			t.Fatalf("%d rows", len(all))
		}
		for _, r := range all {
			runOver(f).put(t, rowOf(key(r.Key.Table, r.Key.Id+1)))
			runOver(f).put(t, rowOf(key(r.Key.Table, r.Key.Id-1)))
			runOver(f).take(t, r.Key)
		}
	}
}

// P13.5: of n rows at most n pages are not free, however few pages are full.
func TestPagesThatAreNotFree(t *testing.T) {
	var d dice
	for range 2000 {
		f := d.anyForest()
		if n, used := len(rowsByWords(f)), api.MaxPages-freeOf(t, f); used > max(n, 1) {
			t.Fatalf("of %d rows %d pages are not free", n, used)
		}
	}
	if f := tree.New(); freeOf(t, f) != api.MaxPages-1 {
		t.Fatal("New has not one page that is not free")
	}
}
