package page_test

import (
	"fmt"
	"math"
	"slices"
	"strings"
	"testing"

	"bursary/api"
	"bursary/codec"
	"bursary/page"
)

// key is short for a key.
func key(table int, id uint16) api.Key {
	return api.Key{Table: table, Id: id}
}

// at is short for a row.
func at(table int, id uint16, val int64, note string) api.Row {
	return api.Row{Key: key(table, id), Val: val, Note: note}
}

// on is short for a kid.
func on(table int, id uint16, page int) api.Kid {
	return api.Kid{Least: key(table, id), Page: page}
}

// free is a page of nothing.
var free = api.Content{Kind: api.KindFree}

// leaf is short for a leaf.
func leaf(rows ...api.Row) api.Content {
	return api.Content{Kind: api.KindLeaf, Rows: rows}
}

// inner is short for an inner page.
func inner(kids ...api.Kid) api.Content {
	return api.Content{Kind: api.KindInner, Kids: kids}
}

// rowOf is the row of a key that all leaves of these tests have, if they have that key: unlike ones have unlike values and notes.
func rowOf(k api.Key) api.Row {
	return api.Row{Key: k, Val: int64(k.Id)*7 - int64(k.Table), Note: strings.Repeat("n", (k.Table+int(k.Id))%9)}
}

// ids is the leaf of rows of table 0.
func ids(all ...uint16) api.Content {
	return leafOf(keysOf(all...)...)
}

// kids is the inner page of kids from zero on, and from these Ids of table 0 on, of pages from that one on.
func kids(first int, all ...uint16) api.Content {
	return innerOf(first, keysOf(all...)...)
}

// keysOf is keys of table 0.
func keysOf(all ...uint16) []api.Key {
	var out []api.Key
	for _, id := range all {
		out = append(out, key(0, id))
	}
	return out
}

// leafOf is the leaf of the rows of these keys.
func leafOf(keys ...api.Key) api.Content {
	out := leaf()
	for _, k := range keys {
		out.Rows = append(out.Rows, rowOf(k))
	}
	return out
}

// innerOf is the inner page of kids from zero on, and from these keys on, of pages from that one on.
func innerOf(first int, keys ...api.Key) api.Content {
	out := inner(on(0, 0, first))
	for i, k := range keys {
		out.Kids = append(out.Kids, api.Kid{Least: k, Page: first + i + 1})
	}
	return out
}

// someKeys are few keys, in order: of all tables, the first and the last of all, and such as are next to one another.
var someKeys = []api.Key{key(0, 0), key(0, 1), key(0, 2), key(0, 256), key(1, 0), key(1, 255), key(2, 65535)}

// oddKeys are keys of no table: ahead of all others, and behind them. Cut to a byte, or to 32 bits, some would be of one.
var oddKeys = []api.Key{key(-1, 0), key(-1, 65535), key(3, 0), key(3, 65535), key(256, 1), key(-256, 1), key(1<<32, 1), key(-1<<32+1, 0), key(math.MaxInt, 2), key(math.MinInt, 2)}

// subsets is all choices of at most n of these keys, in order.
func subsets(all []api.Key, n int) [][]api.Key {
	if len(all) == 0 || n == 0 {
		return [][]api.Key{nil}
	}
	out := subsets(all[1:], n)
	for _, more := range subsets(all[1:], n-1) {
		out = append(out, append([]api.Key{all[0]}, more...))
	}
	return out
}

// goodLeaves are all leaves of someKeys.
func goodLeaves() []api.Content {
	var out []api.Content
	for _, keys := range subsets(someKeys, api.MaxLeaf) {
		out = append(out, leafOf(keys...))
	}
	return out
}

// goodInners are all inner pages of Leasts of someKeys, of pages from that one on.
func goodInners(first int) []api.Content {
	var out []api.Content
	for _, keys := range subsets(someKeys[1:], api.MaxKids-1) {
		if len(keys) > 0 {
			out = append(out, innerOf(first, keys...))
		}
	}
	return out
}

// goodPages are pages that may be, of all Kinds and sizes.
func goodPages() []api.Content {
	out := slices.Concat([]api.Content{{}, free, leaf(), {Kind: api.KindLeaf, Rows: []api.Row{}, Kids: []api.Kid{}}}, goodLeaves(), goodInners(1), goodInners(60))
	return append(out,
		leaf(at(0, 0, math.MinInt64, "\x00\x00\x00\x00\x00\x00\x00\x00"), at(2, 65535, math.MaxInt64, "\xff\xfe")),
		inner(on(0, 0, 63), on(0, 1, 1)),
		inner(on(0, 0, 2), on(0, 9, 63), on(1, 9, 1), on(2, 65535, 7)),
		api.Content{Kind: api.KindInner, Rows: []api.Row{}, Kids: kids(5, 9).Kids})
}

// badPages are pages that may not be, each for one sentence of the codec's words alone.
func badPages() map[string]api.Content {
	a, b, c := at(0, 1, 1, "a"), at(0, 2, 2, "b"), at(1, 1, 3, "c")
	k, l, m := on(0, 0, 3), on(0, 7, 5), on(1, 0, 4)
	out := map[string]api.Content{
		"free, with a row":          {Kind: api.KindFree, Rows: []api.Row{a}},
		"free, with kids":           {Kind: api.KindFree, Kids: []api.Kid{k, l}},
		"free, with four kids":      {Kind: api.KindFree, Kids: kids(3, 1, 2, 3).Kids},
		"a leaf with a kid":         {Kind: api.KindLeaf, Kids: []api.Kid{k}},
		"a leaf with rows and kids": {Kind: api.KindLeaf, Rows: []api.Row{a, b}, Kids: []api.Kid{k, l}},
		"a row too many":            ids(1, 2, 3, 4, 5),
		"rows falling by Id":        leaf(b, a),
		"rows falling by Table":     leaf(c, b),
		"four, the last two fall":   ids(1, 2, 4, 3),
		"a row twice":               leaf(a, a),
		"a key twice":               leaf(a, b, at(0, 2, 9, "")),
		"a row of no table":         leaf(at(3, 0, 0, "")),
		"a row of table -1":         leaf(at(-1, 0, 0, ""), a),
		"a note too long":           leaf(a, at(0, 2, 2, "nine bytes"[:9])),
		"inner, of nothing":         {Kind: api.KindInner},
		"inner, with rows alone":    {Kind: api.KindInner, Rows: []api.Row{a, b}},
		"inner, with a row":         {Kind: api.KindInner, Rows: []api.Row{a}, Kids: []api.Kid{k, l}},
		"one kid":                   inner(k),
		"a kid too many":            kids(3, 1, 2, 3, 4),
		"the first Least not zero":  inner(on(0, 1, 3), l),
		"kids falling":              inner(k, m, l),
		"four, the last two kids":   kids(3, 1, 3, 2),
		"a Least twice":             inner(k, l, on(0, 7, 9)),
		"a Least zero again":        inner(k, on(0, 0, 5)),
		"a page twice":              inner(k, on(0, 7, 3)),
		"the outer pages the same":  inner(k, l, m, on(2, 0, 3)),
		"page 0":                    inner(k, on(0, 7, 0)),
		"page 64":                   inner(k, on(0, 7, api.MaxPages)),
		"page -1":                   inner(on(0, 0, -1), l),
		"a Least of no table":       inner(k, on(3, 0, 5)),
		"a Least of table -1":       inner(on(-1, 0, 3), l),
	}
	for _, kind := range []int{-1, 3, 256, 257, 258, 1 << 32, 1<<32 + 1, 1<<32 + 2, math.MinInt, math.MaxInt} {
		out[fmt.Sprint("Kind ", kind, " of nothing")] = api.Content{Kind: kind}
		out[fmt.Sprint("Kind ", kind, " of rows")] = api.Content{Kind: kind, Rows: []api.Row{a, b}}
		out[fmt.Sprint("Kind ", kind, " of kids")] = api.Content{Kind: kind, Kids: []api.Kid{k, l}}
	}
	return out
}

// answer is what a call answers; which of it a call has, hangs on the call.
type answer struct {
	a, b api.Content
	row  api.Row
	key  api.Key
	n    int
	e    api.Errno
}

// alike says whether two pages are the same, with nothing of the program's own.
func alike(a, b api.Content) bool {
	return a.Kind == b.Kind && slices.Equal(a.Rows, b.Rows) && slices.Equal(a.Kids, b.Kids)
}

// sameAnswer says whether both are the same.
func sameAnswer(x, y answer) bool {
	return alike(x.a, y.a) && alike(x.b, y.b) && x.row == y.row && x.key == y.key && x.n == y.n && x.e == y.e
}

// margin is how many rows, kids stand in the room behind the end of a roomy list.
const margin = 6

// markRow and markKid stand in that room.
var (
	markRow = at(77, 77, 77, "77")
	markKid = on(77, 77, 77)
)

// roomy is a copy of a page with room behind the ends of its lists, which holds marks.
func roomy(c api.Content) api.Content {
	c.Rows = slices.Concat(c.Rows, slices.Repeat([]api.Row{markRow}, margin))[:len(c.Rows)]
	c.Kids = slices.Concat(c.Kids, slices.Repeat([]api.Kid{markKid}, margin))[:len(c.Kids)]
	return c
}

// checkUntouched asks whether a roomy page, and the room behind its lists, is as it was made.
func checkUntouched(t *testing.T, in, want api.Content) {
	t.Helper()
	if !alike(in, want) {
		t.Fatalf("%v is left of %v", in, want)
	}
	rows, kids := in.Rows[len(in.Rows):][:margin], in.Kids[len(in.Kids):][:margin]
	if !slices.Equal(rows, slices.Repeat([]api.Row{markRow}, margin)) || !slices.Equal(kids, slices.Repeat([]api.Kid{markKid}, margin)) {
		t.Fatalf("%v and %v stand in the room behind %v", rows, kids, want)
	}
}

// ask is what a call answers of two pages. Whatever is asked, what is handed in stays; what is answered may be; and beside an error there is nothing.
func ask(t *testing.T, a, b api.Content, call func(a, b api.Content) answer) answer {
	t.Helper()
	inA, inB := roomy(a), roomy(b)
	got := call(inA, inB)
	checkUntouched(t, inA, a)
	checkUntouched(t, inB, b)
	if codec.Check(got.a) != api.OK || codec.Check(got.b) != api.OK {
		t.Fatalf("of %v and %v: %v, which may not be", a, b, got)
	}
	if got.e != api.OK && !sameAnswer(got, answer{e: got.e}) {
		t.Fatalf("of %v and %v: %v stands beside an error", a, b, got)
	}
	return got
}

// get asks Get.
func get(t *testing.T, c api.Content, k api.Key) answer {
	t.Helper()
	return ask(t, c, free, func(in, _ api.Content) (out answer) { out.row, out.e = page.Get(in, k); return out })
}

// put asks Put.
func put(t *testing.T, c api.Content, r api.Row) answer {
	t.Helper()
	return ask(t, c, free, func(in, _ api.Content) (out answer) { out.a, out.e = page.Put(in, r); return out })
}

// take asks Take.
func take(t *testing.T, c api.Content, k api.Key) answer {
	t.Helper()
	return ask(t, c, free, func(in, _ api.Content) (out answer) { out.a, out.row, out.e = page.Take(in, k); return out })
}

// kid asks Kid.
func kid(t *testing.T, c api.Content, k api.Key) answer {
	t.Helper()
	return ask(t, c, free, func(in, _ api.Content) (out answer) { out.n, out.e = page.Kid(in, k); return out })
}

// adopt asks Adopt.
func adopt(t *testing.T, c api.Content, at, number int, least api.Key) answer {
	t.Helper()
	return ask(t, c, free, func(in, _ api.Content) (out answer) { out.a, out.e = page.Adopt(in, at, number, least); return out })
}

// disown asks Disown.
func disown(t *testing.T, c api.Content, at int) answer {
	t.Helper()
	return ask(t, c, free, func(in, _ api.Content) (out answer) { out.a, out.e = page.Disown(in, at); return out })
}

// step asks Step.
func step(t *testing.T, c api.Content, at int, least api.Key) answer {
	t.Helper()
	return ask(t, c, free, func(in, _ api.Content) (out answer) { out.a, out.e = page.Step(in, at, least); return out })
}

// split asks Split.
func split(t *testing.T, c api.Content) answer {
	t.Helper()
	return ask(t, c, free, func(in, _ api.Content) (out answer) { out.a, out.b, out.key, out.e = page.Split(in); return out })
}

// join asks Join.
func join(t *testing.T, a, b api.Content, k api.Key) answer {
	t.Helper()
	return ask(t, a, b, func(a, b api.Content) (out answer) { out.a, out.e = page.Join(a, b, k); return out })
}

// level asks Level.
func level(t *testing.T, a, b api.Content, k api.Key) answer {
	t.Helper()
	return ask(t, a, b, func(a, b api.Content) (out answer) { out.a, out.b, out.key, out.e = page.Level(a, b, k); return out })
}

// check holds an answer against the one that is wanted.
func check(t *testing.T, name string, got, want answer) {
	t.Helper()
	if !sameAnswer(got, want) {
		t.Fatalf("%s: %v, want %v", name, got, want)
	}
}

// refused asks for an error.
func refused(t *testing.T, name string, got answer, want api.Errno) {
	t.Helper()
	check(t, name, got, answer{e: want})
}

// size is how many rows, kids a page has.
func size(c api.Content) int {
	return len(c.Rows) + len(c.Kids)
}

// cloned is a page that shares no memory with c.
func cloned(c api.Content) api.Content {
	return api.Content{Kind: c.Kind, Rows: slices.Clone(c.Rows), Kids: slices.Clone(c.Kids)}
}

// dice are numbers that hang on how many were thrown alone.
type dice uint32

// throw is a number from 0 on and below n.
func (d *dice) throw(n int) int {
	*d = *d*1664525 + 1013904223
	return int(*d>>16) % n
}
