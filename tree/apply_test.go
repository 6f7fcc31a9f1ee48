package tree_test

import (
	"math"
	"slices"
	"testing"

	"bursary/api"
	"bursary/tree"
)

// P13.4: of no groups comes the forest; of groups without sheets, too.
func TestApplyOfNothing(t *testing.T) {
	for name, f := range goodForests() {
		for _, l := range [][]api.Group{nil, {}, {sheets()}, {sheets(), {Sheets: []api.Sheet{}}, sheets()}} {
			check(t, name, apply(t, f, l...), answer{forest: f})
		}
	}
}

// P13.4: one group, and several: what the sheets say in the place of what there is, all else as it is.
func TestApply(t *testing.T) {
	f := forest(three())
	split := group(pages{4: inner(to(0, 63), to(51, 3), to(60, 2), to(80, 5)), 63: ids(45, 50), 3: ids(51, 52)})
	last := group(pages{3: ids(51, 52, 55)})
	check(t, "one", apply(t, f, split), answer{forest: forest(with(three(), pages{4: inner(to(0, 63), to(51, 3), to(60, 2), to(80, 5)), 63: ids(45, 50), 3: ids(51, 52)}))})
	check(t, "two", apply(t, f, split, last), answer{forest: forest(with(three(), pages{4: inner(to(0, 63), to(51, 3), to(60, 2), to(80, 5)), 63: ids(45, 50), 3: ids(51, 52, 55)}))})
	back := group(pages{4: inner(to(0, 63), to(60, 2), to(80, 5)), 63: ids(45, 50, 51, 52), 3: free})
	check(t, "and back", apply(t, f, split, last, back), answer{forest: f})
	check(t, "a row of another value", apply(t, f, group(pages{2: leaf(at(0, 65, 1, "x"), rowOf(key(0, 70)))})), answer{forest: forest(with(three(), pages{2: leaf(at(0, 65, 1, "x"), rowOf(key(0, 70)))}))})
	check(t, "what there is", apply(t, f, group(three())), answer{forest: f})
	check(t, "another forest", apply(t, tree.New(), group(three())), answer{forest: f})
}

// P13.4: page by page: of a page that has several sheets the last one counts, in whatever order the pages stand.
func TestApplyPageByPage(t *testing.T) {
	f := tree.New()
	check(t, "falling", apply(t, f, sheets(sheet(9, ids(21, 22)), sheet(5, ids(1, 2)), sheet(0, inner(to(0, 5), to(20, 9))))),
		answer{forest: forest(pages{0: inner(to(0, 5), to(20, 9)), 5: ids(1, 2), 9: ids(21, 22)})})
	check(t, "twice", apply(t, f, sheets(sheet(0, ids(1)), sheet(0, ids(2)))), answer{forest: forest(pages{0: ids(2)})})
	check(t, "first what may not be", apply(t, f, sheets(sheet(0, api.Content{Kind: 7}), sheet(5, ids(1)), sheet(0, ids(2)), sheet(5, free))), answer{forest: forest(pages{0: ids(2)})})
	refused(t, "last what may not be", apply(t, f, sheets(sheet(0, ids(2)), sheet(0, api.Content{Kind: 7}))), api.ErrArg)
}

// P13.4: a Sheet's Page below 0, at MaxPages and behind it; as the first one, behind others, in a later group; and though a later sheet or group would be right.
func TestApplyOfNoPage(t *testing.T) {
	f := forest(three())
	good := group(pages{1: ids(10, 11, 12)})
	for _, num := range []int{-1, -2, 64, 65, 256, 1 << 32, -1 << 32, math.MaxInt, math.MinInt} {
		for _, c := range []api.Content{free, ids(1), {Kind: 7}} {
			bad := sheets(sheet(num, c))
			refused(t, "alone", apply(t, f, bad), api.ErrArg)
			refused(t, "ahead of others", apply(t, f, sheets(append(slices.Clone(bad.Sheets), good.Sheets...)...)), api.ErrArg)
			refused(t, "behind others", apply(t, f, sheets(append(slices.Clone(good.Sheets), bad.Sheets...)...)), api.ErrArg)
			refused(t, "in the second group", apply(t, f, good, bad), api.ErrArg)
			refused(t, "in the first of three", apply(t, f, bad, good, good), api.ErrArg)
		}
	}
	check(t, "the last page that there is", apply(t, f, sheets(sheet(62, free), sheet(63, ids(45, 46)))), answer{forest: forest(with(three(), pages{63: ids(45, 46)}))})
	check(t, "the first one", apply(t, tree.New(), sheets(sheet(0, ids(45, 46)))), answer{forest: forest(pages{0: ids(45, 46)})})
}

// P13.4: a group behind which there is no forest: as the first one, as a later one, and though another one would mend it.
func TestApplyOfWhatMayNotBe(t *testing.T) {
	f := forest(three())
	good := group(pages{1: ids(10, 11, 12)})
	for name, b := range badForests() {
		if len(b.Pages) != api.MaxPages {
			continue
		}
		p := pages{}
		for num, c := range b.Pages {
			p[num] = c
		}
		bad := group(p)
		refused(t, name, apply(t, f, bad), api.ErrArg)
		refused(t, name+", later", apply(t, f, good, sheets(), bad), api.ErrArg)
		refused(t, name+", mended", apply(t, f, bad, group(allPages(f))), api.ErrArg)
	}
}

// allPages is all pages of a forest.
func allPages(f api.Forest) pages {
	out := pages{}
	for num, c := range f.Pages {
		out[num] = c
	}
	return out
}

// P13.4: two groups that change what may only be changed together are refused one by one, and taken as one.
func TestApplyOfHalfAGroup(t *testing.T) {
	f := forest(pages{0: ids(10, 20, 30, 40)})
	a, b := pages{0: inner(to(0, 1), to(30, 2)), 1: ids(10, 20)}, pages{2: ids(30, 40)}
	refused(t, "one ahead", apply(t, f, group(a), group(b)), api.ErrArg)
	refused(t, "the other one ahead", apply(t, f, group(b), group(a)), api.ErrArg)
	check(t, "together", apply(t, f, group(with(a, b))), answer{forest: forest(with(a, b))})
}

// P13.4: each sheet alone of a group of several, and all but one of it, held against the words.
func TestApplyOfParts(t *testing.T) {
	var d dice
	done, not := 0, 0
	for range 400 {
		f := d.anyForest()
		all := rowsByWords(f)
		got := putByWords(f, rowOf(key(0, uint16(d.throw(400)))))
		if len(all) > 0 && d.throw(2) == 0 {
			got = takeByWords(f, all[d.throw(len(all))].Key)
		}
		if len(got.groups) < 2 {
			continue
		}
		for drop := range got.groups[0].Sheets {
			part := sheets(slices.Delete(slices.Clone(got.groups[0].Sheets), drop, drop+1)...)
			h := handOver(f)
			for _, s := range part.Sheets {
				h.pages[s.Page] = s.Content
			}
			want := answer{forest: api.Forest{Pages: h.pages}}
			if !mayBeByWords(want.forest) {
				want = answer{e: api.ErrArg}
				not++
			} else {
				done++
			}
			check(t, "Apply", apply(t, f, part), want)
		}
	}
	if not < 100 {
		t.Fatalf("%d parts were applied, %d not", done, not)
	}
}

// P13.4: very many groups.
func TestApplyOfManyGroups(t *testing.T) {
	var l []api.Group
	for n := range 500 {
		l = append(l, group(pages{0: ids(uint16(n))}))
	}
	check(t, "Apply", apply(t, tree.New(), l...), answer{forest: forest(pages{0: ids(499)})})
	refused(t, "the last one is wrong", apply(t, tree.New(), append(l, sheets(sheet(0, free)))...), api.ErrArg)
}

// P13.4: Net of no groups, and of groups of nothing, is nothing.
func TestNetOfNothing(t *testing.T) {
	for _, l := range [][]api.Group{nil, {}, {sheets()}, {sheets(), {Sheets: []api.Sheet{}}}} {
		if got := net(t, l...); len(got) != 0 {
			t.Fatalf("Net(%v) is %v", l, got)
		}
	}
}

// P13.4: each page once, rising, with what the last sheet of it says; whatever the order, and however often.
func TestNet(t *testing.T) {
	a, b, c := ids(1), ids(2), ids(3)
	for name, x := range map[string]struct {
		l    []api.Group
		want []api.Sheet
	}{
		"one":                     {[]api.Group{sheets(sheet(5, a))}, []api.Sheet{sheet(5, a)}},
		"falling":                 {[]api.Group{sheets(sheet(9, a), sheet(5, b), sheet(0, c))}, []api.Sheet{sheet(0, c), sheet(5, b), sheet(9, a)}},
		"twice in a group":        {[]api.Group{sheets(sheet(5, a), sheet(5, b))}, []api.Sheet{sheet(5, b)}},
		"thrice, others between":  {[]api.Group{sheets(sheet(5, a), sheet(7, a), sheet(5, b), sheet(6, c), sheet(5, c))}, []api.Sheet{sheet(5, c), sheet(6, c), sheet(7, a)}},
		"in two groups":           {[]api.Group{sheets(sheet(5, a), sheet(7, b)), sheets(sheet(5, c))}, []api.Sheet{sheet(5, c), sheet(7, b)}},
		"the first group's later": {[]api.Group{sheets(sheet(9, a)), sheets(sheet(3, b))}, []api.Sheet{sheet(3, b), sheet(9, a)}},
		"freed in the end":        {[]api.Group{sheets(sheet(5, a)), sheets(sheet(5, free))}, []api.Sheet{sheet(5, free)}},
		"pages that are none":     {[]api.Group{sheets(sheet(64, a), sheet(-1, b), sheet(math.MaxInt, c), sheet(math.MinInt, a), sheet(0, b), sheet(-1, a))}, []api.Sheet{sheet(math.MinInt, a), sheet(-1, a), sheet(0, b), sheet(64, a), sheet(math.MaxInt, c)}},
	} {
		if got := net(t, x.l...); !alikeSheets(got, x.want) {
			t.Errorf("%s: %v, want %v", name, got, x.want)
		}
	}
}

// P13.4: what a sheet says is told as it is, whether it may be or not.
func TestNetOfWhateverPages(t *testing.T) {
	for _, c := range append(badPages(), free, leaf(), ids(1, 2), inner(to(0, 1), to(7, 2))) {
		if got := net(t, sheets(sheet(7, c))); !alikeSheets(got, []api.Sheet{sheet(7, c)}) {
			t.Fatalf("%v, want %v", got, c)
		}
	}
}

// P13.4: Net of many groups, held against a plain list of what each page holds last.
func TestNetOfMany(t *testing.T) {
	var d dice
	for range 300 {
		var l []api.Group
		holds := map[int]api.Content{}
		for range d.throw(6) {
			var g api.Group
			for range d.throw(12) {
				s := sheet(d.throw(20)-5, ids(uint16(d.throw(9))))
				g.Sheets = append(g.Sheets, s)
				holds[s.Page] = s.Content
			}
			l = append(l, g)
		}
		var want []api.Sheet
		for num := -5; num < 15; num++ {
			if c, there := holds[num]; there {
				want = append(want, sheet(num, c))
			}
		}
		if got := net(t, l...); !alikeSheets(got, want) {
			t.Fatalf("Net(%v) is %v, want %v", l, got, want)
		}
	}
}
