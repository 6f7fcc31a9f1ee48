package tree_test

import (
	"fmt"
	"math"
	"slices"
	"testing"

	"bursary/api"
	"bursary/tree"
)

// The chapter's numbers.
func TestNumbers(t *testing.T) {
	if api.ErrForest != 230 || api.MaxPages != 64 || api.Few != 2 || api.MaxLeaf != 4 || api.MaxKids != 4 || api.MaxRows != 60 || api.MaxPath != 12 {
		t.Fatal("the limits are not the chapter's")
	}
	if api.ErrArg != 2 || api.ErrNone != 4 || api.ErrFull != 6 || api.ErrRow != 151 {
		t.Fatal("the errors are not the chapter's")
	}
}

// three is a forest three pages deep: the parts of the leaves begin with 0, 20, 40, 60, 80; the root's kids' with 0, 40.
func three() pages {
	return pages{
		0: inner(to(0, 9), to(40, 4)),
		9: inner(to(0, 1), to(20, 7)),
		4: inner(to(0, 63), to(60, 2), to(80, 5)),
		1: ids(10, 11), 7: ids(25, 30, 35), 63: ids(45, 50, 51, 52), 2: ids(65, 70), 5: ids(85, 90),
	}
}

// with is such pages, some of which hold something else.
func with(p, others pages) pages {
	for num, c := range others {
		p[num] = c
	}
	return p
}

// goodForests are forests that may be, each at some edge of the words.
func goodForests() map[string]api.Forest {
	return map[string]api.Forest{
		"a root of no rows":             forest(pages{0: leaf()}),
		"lists that are not nil":        forest(pages{0: {Kind: api.KindLeaf, Rows: []api.Row{}, Kids: []api.Kid{}}, 5: {Rows: []api.Row{}, Kids: []api.Kid{}}}),
		"a root of one row":             forest(pages{0: ids(7)}),
		"a root of two rows":            forest(pages{0: ids(7, 8)}),
		"a full root":                   forest(pages{0: ids(7, 8, 9, 10)}),
		"rows of all tables":            forest(pages{0: leaf(at(0, 0, math.MinInt64, ""), at(1, 3, 0, "12345678"), at(2, 65535, math.MaxInt64, "\x00"))}),
		"two leaves":                    forest(pages{0: inner(to(0, 1), to(9, 2)), 1: ids(7, 8), 2: ids(9, 10)}),
		"the last page":                 forest(pages{0: inner(to(0, 63), to(9, 1)), 63: ids(7, 8), 1: ids(9, 10)}),
		"four leaves":                   forest(pages{0: inner(to(0, 1), to(9, 2), to(11, 3), to(13, 4)), 1: ids(7, 8), 2: ids(9, 10), 3: ids(11, 12), 4: ids(13, 14)}),
		"three deep":                    forest(three()),
		"the least of a kid":            forest(with(three(), pages{7: ids(20, 30, 35)})),
		"just below the next one":       forest(with(three(), pages{7: ids(25, 30, 39), 1: ids(10, 19)})),
		"the least of a kid's kid":      forest(with(three(), pages{63: ids(40, 50, 51, 52)})),
		"the least of all":              forest(with(three(), pages{1: ids(0, 1)})),
		"the greatest of all":           forest(with(three(), pages{5: leaf(rowOf(key(0, 80)), rowOf(key(2, 65535)))})),
		"a Least just behind":           forest(with(three(), pages{4: inner(to(0, 63), to(53, 2), to(71, 5))})),
		"a Least at the row":            forest(with(three(), pages{4: inner(to(0, 63), to(65, 2), to(85, 5))})),
		"the greatest Least":            forest(pages{0: inner(to(0, 1), on(2, 65534, 2)), 1: ids(7, 8), 2: leaf(rowOf(key(2, 65534)), rowOf(key(2, 65535)))}),
		"the least Least":               forest(pages{0: inner(to(0, 1), to(2, 2)), 1: ids(0, 1), 2: ids(2, 3)}),
		"as many pages as there may be": plain(nd(each(4, 4, 4, 4), each(4, 4, 4, 4), each(3, 3, 3), each(2, 3))),
		"six deep":                      plain(least(6)),
	}
}

// badForests are forests that may not be, each for one sentence of the words alone.
func badForests() map[string]api.Forest {
	none := forest(nil)
	long := plain(nd(lfs(2, 2)...))
	long.Pages = append(long.Pages, free)
	short := plain(nd(lfs(2, 2)...))
	short.Pages = short.Pages[:63]
	out := map[string]api.Forest{
		"no pages":                      {},
		"no pages, not nil":             {Pages: []api.Content{}},
		"one page":                      {Pages: []api.Content{ids(7)}},
		"a page less":                   short,
		"a page more":                   long,
		"all free":                      none,
		"a root that is free":           forest(pages{1: ids(7, 8)}),
		"a root that is free, of lists": forest(pages{0: {Rows: []api.Row{}, Kids: []api.Kid{}}}),
		"a leaf that nobody reaches":    forest(pages{0: ids(7), 5: ids(8, 9)}),
		"so, of no rows":                forest(pages{0: ids(7), 63: leaf()}),
		"so, in a tree":                 forest(with(three(), pages{3: ids(95, 96)})),
		"a tree that nobody reaches":    forest(with(three(), pages{10: inner(to(0, 11), to(9, 12)), 11: ids(7, 8), 12: ids(9, 10)})),
		"a circle that nobody reaches":  forest(with(three(), pages{10: inner(to(0, 11), to(9, 12)), 11: inner(to(0, 10), to(3, 12)), 12: ids(9, 10)})),
		"a page of two kids":            forest(with(three(), pages{4: inner(to(0, 63), to(60, 7), to(80, 5)), 2: free, 7: ids(65, 70)})),
		"an inner page of two kids":     forest(pages{0: inner(to(0, 1), to(40, 1)), 1: inner(to(0, 2), to(20, 3)), 2: ids(1, 2), 3: ids(21, 22)}),
		"a page of root and kid":        forest(pages{0: inner(to(0, 1), to(40, 2)), 1: inner(to(0, 2), to(20, 3)), 2: ids(1, 2), 3: ids(21, 22)}),
		"a page of kid and root":        forest(pages{0: inner(to(0, 2), to(40, 1)), 1: inner(to(0, 3), to(60, 2)), 2: ids(1, 2), 3: ids(41, 42)}),
		"a page of its own":             forest(pages{0: inner(to(0, 1), to(40, 2)), 1: inner(to(0, 3), to(20, 1)), 2: ids(41, 42), 3: ids(1, 2)}),
		"a page of its own, first":      forest(pages{0: inner(to(0, 1), to(40, 2)), 1: inner(to(0, 1), to(20, 3)), 2: ids(41, 42), 3: ids(21, 22)}),
		"a page of its kid":             forest(pages{0: inner(to(0, 1), to(40, 2)), 1: inner(to(0, 3), to(20, 4)), 2: ids(41, 42), 3: inner(to(0, 5), to(9, 1)), 4: ids(21, 22), 5: ids(1, 2)}),
		"a page of its kid's kid":       forest(pages{0: inner(to(0, 1), to(40, 2)), 1: inner(to(0, 3), to(20, 4)), 2: ids(41, 42), 3: inner(to(0, 5), to(9, 6)), 4: ids(21, 22), 5: inner(to(0, 7), to(4, 1)), 6: ids(9, 10), 7: ids(1, 2)}),
		"a kid that is free":            forest(with(three(), pages{5: free})),
		"a first kid that is free":      forest(with(three(), pages{1: free})),
		"both kids free":                forest(pages{0: inner(to(0, 1), to(9, 2))}),
		"a kid of the root that is":     forest(pages{0: inner(to(0, 1), to(9, 2)), 1: ids(7, 8)}),
		"a leaf of one row":             forest(with(three(), pages{5: ids(85)})),
		"a first leaf of one row":       forest(with(three(), pages{1: ids(10)})),
		"a leaf of no rows":             forest(with(three(), pages{2: leaf()})),
		"a leaf nearer to the root":     forest(pages{0: inner(to(0, 1), to(40, 2)), 1: inner(to(0, 3), to(20, 4)), 2: ids(41, 42), 3: ids(1, 2), 4: ids(21, 22)}),
		"a first leaf nearer":           forest(pages{0: inner(to(0, 2), to(40, 1)), 1: inner(to(0, 3), to(60, 4)), 2: ids(1, 2), 3: ids(41, 42), 4: ids(61, 62)}),
		"a leaf farther, in the middle": forest(with(three(), pages{2: inner(to(0, 20), to(70, 21)), 20: ids(65, 66), 21: ids(75, 76)})),
		"a row below its page":          forest(with(three(), pages{7: ids(19, 30, 35)})),
		"a row at the next page":        forest(with(three(), pages{1: ids(10, 20)})),
		"a row of the next page":        forest(with(three(), pages{1: ids(10, 38)})),
		"a row of the last leaf below":  forest(with(three(), pages{5: ids(79, 90)})),
		"a row below its page's page":   forest(with(three(), pages{63: ids(39, 50, 51, 52)})),
		"a row at that one's next":      forest(with(three(), pages{7: ids(25, 30, 40)})),
		"a row behind that one's next":  forest(with(three(), pages{7: ids(25, 30, 95)})),
		"a row of a table below":        forest(with(with(three(), pages{0: inner(to(0, 9), on(1, 40, 4))}), pages{4: inner(to(0, 63), on(1, 60, 2), on(1, 80, 5)), 63: leaf(rowOf(key(0, 50)), rowOf(key(1, 50))), 2: leaf(rowOf(key(1, 60)), rowOf(key(1, 61))), 5: leaf(rowOf(key(1, 85)), rowOf(key(2, 0)))})),
		"a Least below its page":        forest(with(three(), pages{4: inner(to(0, 63), to(39, 2), to(80, 5)), 63: ids(40, 41)})),
		"a Least at its page":           forest(with(three(), pages{4: inner(to(0, 63), to(40, 2), to(80, 5))})),
		"a Least at the next page":      forest(with(three(), pages{9: inner(to(0, 1), to(40, 7))})),
		"a Least behind the next page":  forest(with(three(), pages{9: inner(to(0, 1), to(41, 7))})),
		"a row at a Least":              forest(pages{0: inner(to(0, 1), to(9, 2)), 1: ids(7, 9), 2: ids(10, 11)}),
		"turned round":                  forest(pages{0: inner(to(0, 1), to(9, 2)), 2: ids(7, 8), 1: ids(9, 10)}),
	}
	for _, num := range []int{0, 1, 9, 12, 62, 63} {
		for i, c := range badPages() {
			out[fmt.Sprint("page ", num, " holds ", i)] = forest(with(three(), pages{num: c}))
		}
	}
	for num := range api.MaxPages - 1 {
		out[fmt.Sprint("page ", num+1, " is free, with a row")] = forest(pages{0: ids(7), num + 1: {Kind: api.KindFree, Rows: ids(8).Rows}})
	}
	return out
}

// badPages are contents that may not be.
func badPages() []api.Content {
	return []api.Content{
		{Kind: 3}, {Kind: -1}, {Kind: math.MaxInt}, {Kind: 1 << 32}, {Kind: api.KindFree, Rows: []api.Row{{}}}, {Kind: api.KindFree, Kids: []api.Kid{{Page: 3}}},
		ids(12, 11), ids(11, 11), ids(10, 11, 12, 13, 14), leaf(at(3, 0, 0, ""), at(3, 1, 0, "")), leaf(at(-1, 0, 0, ""), at(0, 11, 0, "")), leaf(at(0, 10, 0, "123456789"), rowOf(key(0, 11))),
		inner(), inner(to(0, 1)), inner(to(0, 1), to(20, 0)), inner(to(0, 1), to(20, 64)), inner(to(0, 1), to(20, -1)), inner(to(0, 1), to(20, 1)), inner(to(1, 1), to(20, 7)), inner(to(0, 1), to(20, 7), to(20, 8)),
		inner(to(0, 1), to(20, 7), on(3, 0, 8)), {Kind: api.KindInner, Rows: ids(10).Rows, Kids: inner(to(0, 1), to(20, 7)).Kids}, {Kind: api.KindLeaf, Rows: ids(10, 11).Rows, Kids: inner(to(0, 1)).Kids},
	}
}

// P13.1: the words hold each of these forests to be what it is said to be here, and so does Check.
func TestCheck(t *testing.T) {
	for name, f := range goodForests() {
		if !mayBeByWords(f) {
			t.Fatalf("%s: by the words it may not be", name)
		}
		if e := checkOf(t, f); e != api.OK {
			t.Errorf("%s: error %d", name, e)
		}
	}
	for name, f := range badForests() {
		if mayBeByWords(f) {
			t.Fatalf("%s: by the words it may be", name)
		}
		if e := checkOf(t, f); e != api.ErrForest {
			t.Errorf("%s: error %d, want ErrForest", name, e)
		}
	}
}

// P13.1: whatever the number of pages.
func TestCheckOfManyLengths(t *testing.T) {
	for _, n := range []int{0, 1, 2, 3, 32, 62, 63, 64, 65, 66, 127, 128, 256, 1 << 16} {
		f := api.Forest{Pages: make([]api.Content, n)}
		if n > 0 {
			f.Pages[0] = ids(7)
		}
		want := api.ErrForest
		if n == api.MaxPages {
			want = api.OK
		}
		if e := checkOf(t, f); e != want {
			t.Errorf("%d pages: error %d, want %d", n, e, want)
		}
	}
}

// P13.1: New may be; its root is a leaf without rows, all others are free; and it is a new one each time.
func TestNew(t *testing.T) {
	want := forest(pages{0: leaf()})
	f := tree.New()
	check(t, "New", answer{forest: f}, answer{forest: want})
	if e := checkOf(t, f); e != api.OK {
		t.Fatalf("Check(New): error %d", e)
	}
	overwriteForest(f)
	check(t, "New, once more", answer{forest: tree.New()}, answer{forest: want})
}

// P13.1: Same of a forest and others that differ from it in one thing of one page only; whether they may be or not.
func TestSame(t *testing.T) {
	f := forest(three())
	if !same(t, f, f) || !same(t, f, forest(three())) {
		t.Fatal("a forest is not the same as itself")
	}
	for num := range api.MaxPages {
		for _, c := range append(badPages(), free, leaf(), ids(7), ids(10, 11), ids(10, 11, 12), leaf(at(0, 10, 71, "n"), rowOf(key(0, 11))), leaf(at(0, 10, 70, "m"), rowOf(key(0, 11))), inner(to(0, 1), to(20, 7)), inner(to(0, 1), to(21, 7)), inner(to(0, 1), to(20, 8))) {
			other := forest(with(three(), pages{num: c}))
			if got, want := same(t, f, other), alikePage(f.Pages[num], c); got != want {
				t.Fatalf("page %d is %v: %t, want %t", num, c, got, want)
			}
			if !same(t, other, other) {
				t.Fatalf("%v is not the same as itself", other)
			}
		}
	}
}

// P13.1: nil and empty lists are the same, of pages, rows and kids.
func TestSameOfNilAndEmpty(t *testing.T) {
	if !same(t, api.Forest{}, api.Forest{Pages: []api.Content{}}) {
		t.Fatal("no pages are not the same as none")
	}
	a, b := forest(pages{0: leaf()}), forest(pages{0: {Kind: api.KindLeaf, Rows: []api.Row{}, Kids: []api.Kid{}}})
	for i := 1; i < api.MaxPages; i++ {
		b.Pages[i] = api.Content{Rows: []api.Row{}, Kids: []api.Kid{}}
	}
	if !same(t, a, b) || !same(t, tree.New(), b) {
		t.Fatal("empty lists are not the same as nil ones")
	}
	if checkOf(t, b) != api.OK {
		t.Fatal("empty lists may not be")
	}
}

// P13.1: forests of unlike numbers of pages are not the same, one of which is the beginning of the other one.
func TestSameOfUnlikeLengths(t *testing.T) {
	f := forest(three())
	for n := range api.MaxPages {
		if same(t, f, api.Forest{Pages: f.Pages[:n]}) {
			t.Fatalf("the same as %d of its pages", n)
		}
	}
	if same(t, f, api.Forest{Pages: append(slices.Clone(f.Pages), free)}) || same(t, api.Forest{}, api.Forest{Pages: make([]api.Content, 1)}) {
		t.Fatal("the same as one of a free page more")
	}
}

// bend is a forest with something changed in one page, or in two.
func (d *dice) bend(f api.Forest) api.Forest {
	f = roomyForest(f)
	ways, _ := waysByWords(f)
	var used []int
	for num := range api.MaxPages {
		if _, there := ways[num]; there {
			used = append(used, num)
		}
	}
	num := used[d.throw(len(used))]
	c := &f.Pages[num]
	switch d.throw(8) {
	case 0:
		c.Kind = d.throw(4)
	case 1:
		f.Pages[d.throw(64)] = clonedPage(*c)
	case 2:
		other := d.throw(64)
		f.Pages[num], f.Pages[other] = f.Pages[other], f.Pages[num]
	case 3:
		f.Pages = f.Pages[:63+d.throw(2)]
	case 4:
		if len(c.Rows) > 0 {
			c.Rows = c.Rows[:d.throw(len(c.Rows))]
		}
	case 5:
		if len(c.Kids) > 0 {
			c.Kids[d.throw(len(c.Kids))].Page = d.throw(64)
		}
	case 6:
		if len(c.Kids) > 0 {
			k := &c.Kids[d.throw(len(c.Kids))].Least
			k.Id += uint16(d.throw(33) - 16)
		}
	default:
		if len(c.Rows) > 0 {
			r := &c.Rows[d.throw(len(c.Rows))].Key
			r.Id += uint16(d.throw(33) - 16)
		}
	}
	return f
}

// P13.1: many forests that may be, and others that are nearly these, held against the words.
func TestCheckOfMany(t *testing.T) {
	var d dice
	may, not := 0, 0
	for range 15000 {
		f := d.bend(d.anyForest())
		want := api.ErrForest
		if mayBeByWords(f) {
			want = api.OK
			may++
		} else {
			not++
		}
		if e := tree.Check(f); e != want {
			t.Fatalf("Check(%v): error %d, want %d", f, e, want)
		}
	}
	if may < 3000 || not < 3000 {
		t.Fatalf("%d forests may be, %d may not", may, not)
	}
}
