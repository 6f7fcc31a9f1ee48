package tree_test

import (
	"slices"
	"strings"
	"testing"

	"bursary/api"
	"bursary/codec"
	"bursary/tree"
)

// key is short for a key.
func key(table int, id uint16) api.Key {
	return api.Key{Table: table, Id: id}
}

// at is short for a row.
func at(table int, id uint16, val int64, note string) api.Row {
	return api.Row{Key: key(table, id), Val: val, Note: note}
}

// on is short for a kid.
func on(table int, id uint16, page int) api.Kid {
	return api.Kid{Least: key(table, id), Page: page}
}

// to is the kid from an Id of table 0 on.
func to(id uint16, page int) api.Kid {
	return on(0, id, page)
}

// free is a page of nothing.
var free = api.Content{Kind: api.KindFree}

// leaf is short for a leaf.
func leaf(rows ...api.Row) api.Content {
	return api.Content{Kind: api.KindLeaf, Rows: rows}
}

// inner is short for an inner page.
func inner(kids ...api.Kid) api.Content {
	return api.Content{Kind: api.KindInner, Kids: kids}
}

// rowOf is the row of a key that all forests of these tests have, if they have that key: unlike ones have unlike values and notes.
func rowOf(k api.Key) api.Row {
	return api.Row{Key: k, Val: int64(k.Id)*7 - int64(k.Table), Note: strings.Repeat("n", (k.Table+int(k.Id))%9)}
}

// ids is the leaf of rows of table 0.
func ids(all ...uint16) api.Content {
	out := leaf()
	for _, id := range all {
		out.Rows = append(out.Rows, rowOf(key(0, id)))
	}
	return out
}

// pages are what some pages hold, by their numbers.
type pages map[int]api.Content

// forest is the forest of these pages, and free ones.
func forest(p pages) api.Forest {
	out := api.Forest{Pages: make([]api.Content, api.MaxPages)}
	for num, c := range p {
		out.Pages[num] = c
	}
	return out
}

// group is the group of these pages.
func group(p pages) api.Group {
	var out api.Group
	for num := range api.MaxPages {
		if c, there := p[num]; there {
			out.Sheets = append(out.Sheets, sheet(num, c))
		}
	}
	return out
}

// sheet is short for a sheet.
func sheet(num int, c api.Content) api.Sheet {
	return api.Sheet{Page: num, Content: c}
}

// sheets is a group of these, in whatever order.
func sheets(all ...api.Sheet) api.Group {
	return api.Group{Sheets: all}
}

// alikePage says whether two contents are the same, with nothing of the program's own.
func alikePage(a, b api.Content) bool {
	return a.Kind == b.Kind && slices.Equal(a.Rows, b.Rows) && slices.Equal(a.Kids, b.Kids)
}

// alike says whether two forests are the same, so.
func alike(a, b api.Forest) bool {
	return slices.EqualFunc(a.Pages, b.Pages, alikePage)
}

// alikeSheets says whether sheets are the same, so.
func alikeSheets(a, b []api.Sheet) bool {
	return slices.EqualFunc(a, b, func(x, y api.Sheet) bool { return x.Page == y.Page && alikePage(x.Content, y.Content) })
}

// alikeGroups says whether groups are the same, so.
func alikeGroups(a, b []api.Group) bool {
	return slices.EqualFunc(a, b, func(x, y api.Group) bool { return alikeSheets(x.Sheets, y.Sheets) })
}

// answer is what a call answers; which of it a call has, hangs on the call.
type answer struct {
	forest api.Forest
	rows   []api.Row
	groups []api.Group
	sheets []api.Sheet
	row    api.Row
	n      int
	is     bool
	e      api.Errno
}

// sameAnswer says whether both are the same.
func sameAnswer(x, y answer) bool {
	return alike(x.forest, y.forest) && slices.Equal(x.rows, y.rows) && alikeGroups(x.groups, y.groups) && alikeSheets(x.sheets, y.sheets) &&
		x.row == y.row && x.n == y.n && x.is == y.is && x.e == y.e
}

// check holds an answer against the one that is wanted.
func check(t *testing.T, name string, got, want answer) {
	t.Helper()
	if !sameAnswer(got, want) {
		t.Fatalf("%s: %v, want %v", name, got, want)
	}
}

// refused asks for an error, and nothing beside it.
func refused(t *testing.T, name string, got answer, want api.Errno) {
	t.Helper()
	check(t, name, got, answer{e: want})
}

// expectOK asks for no error.
func expectOK(t *testing.T, name string, got answer) answer {
	t.Helper()
	if got.e != api.OK {
		t.Fatalf("%s: error %d", name, got.e)
	}
	return got
}

// ask is what a call answers of a forest and groups. Whatever is asked, what is handed in stays; and beside an error there is nothing.
func ask(t *testing.T, f api.Forest, l []api.Group, call func(f api.Forest, l []api.Group) answer) answer {
	t.Helper()
	inF, inL := roomyForest(f), roomyGroups(l)
	got := call(inF, inL)
	checkForest(t, inF, f)
	checkGroups(t, inL, l)
	if got.e != api.OK && !sameAnswer(got, answer{e: got.e}) {
		t.Fatalf("%v stands beside an error", got)
	}
	return got
}

// checkOf asks Check.
func checkOf(t *testing.T, f api.Forest) api.Errno {
	t.Helper()
	return ask(t, f, nil, func(f api.Forest, _ []api.Group) answer { return answer{e: tree.Check(f)} }).e
}

// rows asks Rows.
func rows(t *testing.T, f api.Forest) answer {
	t.Helper()
	return ask(t, f, nil, func(f api.Forest, _ []api.Group) (out answer) { out.rows, out.e = tree.Rows(f); return out })
}

// get asks Get.
func get(t *testing.T, f api.Forest, k api.Key) answer {
	t.Helper()
	return ask(t, f, nil, func(f api.Forest, _ []api.Group) (out answer) { out.row, out.e = tree.Get(f, k); return out })
}

// freeOf asks Free.
func freeOf(t *testing.T, f api.Forest) int {
	t.Helper()
	return ask(t, f, nil, func(f api.Forest, _ []api.Group) answer { return answer{n: tree.Free(f)} }).n
}

// depth asks Depth.
func depth(t *testing.T, f api.Forest) int {
	t.Helper()
	return ask(t, f, nil, func(f api.Forest, _ []api.Group) answer { return answer{n: tree.Depth(f)} }).n
}

// same asks Same, both ways round.
func same(t *testing.T, a, b api.Forest) bool {
	t.Helper()
	back := ask(t, b, nil, func(b api.Forest, _ []api.Group) answer { return answer{is: tree.Same(b, a)} }).is
	if got := ask(t, a, nil, func(a api.Forest, _ []api.Group) answer { return answer{is: tree.Same(a, b)} }).is; got != back {
		t.Fatalf("Same is %t, and the other way round %t", got, back)
	}
	return back
}

// put asks Put. What is answered are groups of pages that there are, rising, of contents that may be.
func put(t *testing.T, f api.Forest, r api.Row) answer {
	t.Helper()
	got := ask(t, f, nil, func(f api.Forest, _ []api.Group) (out answer) { out.groups, out.e = tree.Put(f, r); return out })
	checkAnswered(t, got.groups)
	return got
}

// take asks Take, so.
func take(t *testing.T, f api.Forest, k api.Key) answer {
	t.Helper()
	got := ask(t, f, nil, func(f api.Forest, _ []api.Group) (out answer) {
		out.groups, out.row, out.e = tree.Take(f, k)
		return out
	})
	checkAnswered(t, got.groups)
	return got
}

// apply asks Apply. What is answered may be.
func apply(t *testing.T, f api.Forest, l ...api.Group) answer {
	t.Helper()
	got := ask(t, f, l, func(f api.Forest, l []api.Group) (out answer) { out.forest, out.e = tree.Apply(f, l...); return out })
	if got.e == api.OK && (!mayBeByWords(got.forest) || checkOf(t, got.forest) != api.OK) {
		t.Fatalf("of %v and %v: %v, which may not be", f, l, got.forest)
	}
	return got
}

// net asks Net.
func net(t *testing.T, l ...api.Group) []api.Sheet {
	t.Helper()
	return ask(t, api.Forest{}, l, func(_ api.Forest, l []api.Group) answer { return answer{sheets: tree.Net(l)} }).sheets
}

// checkAnswered asks whether groups are of pages that rise, with contents that may be.
func checkAnswered(t *testing.T, l []api.Group) {
	t.Helper()
	for _, g := range l {
		for i, s := range g.Sheets {
			if s.Page < 0 || s.Page >= api.MaxPages || i > 0 && g.Sheets[i-1].Page >= s.Page || codec.Check(s.Content) != api.OK {
				t.Fatalf("%v is no group", g)
			}
		}
		if len(g.Sheets) == 0 {
			t.Fatalf("%v has a group of nothing", l)
		}
	}
}

// dice are numbers that hang on how many were thrown alone.
type dice uint32

// throw is a number from 0 on and below n.
func (d *dice) throw(n int) int {
	*d = *d*1664525 + 1013904223
	return int(*d>>16) % n
}

// shuffled is numbers from 1 to n, in a mixed order.
func (d *dice) shuffled(n int) []int {
	var out []int
	for i := range n {
		out = append(out, i+1)
	}
	for i := range out {
		j := i + d.throw(n-i)
		out[i], out[j] = out[j], out[i]
	}
	return out
}
