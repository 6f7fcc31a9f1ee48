package codec_test

import (
	"bytes"
	"maps"
	"math"
	"slices"
	"strings"
	"testing"

	"bursary/api"
	"bursary/codec"
)

// key is short for a key.
func key(table int, id uint16) api.Key {
	return api.Key{Table: table, Id: id}
}

// at is short for a row.
func at(table int, id uint16, val int64, note string) api.Row {
	return api.Row{Key: key(table, id), Val: val, Note: note}
}

// on is short for a kid.
func on(table int, id uint16, page int) api.Kid {
	return api.Kid{Least: key(table, id), Page: page}
}

// free is a content of nothing.
var free = api.Content{Kind: api.KindFree}

// leaf is short for a leaf.
func leaf(rows ...api.Row) api.Content {
	return api.Content{Kind: api.KindLeaf, Rows: rows}
}

// inner is short for an inner content.
func inner(kids ...api.Kid) api.Content {
	return api.Content{Kind: api.KindInner, Kids: kids}
}

// long is a note of n bytes.
func long(n int) string {
	return strings.Repeat("n", n)
}

// goodRows are rows that may be laid: all choices of edges of each field, and some between.
func goodRows() []api.Row {
	var out []api.Row
	for _, table := range []int{0, 1, 2} {
		for _, id := range []uint16{0, 1, 255, 256, 0x1234, 32767, 32768, 65534, 65535} {
			for _, val := range []int64{math.MinInt64, math.MinInt64 + 1, -256, -1, 0, 1, 255, 256, 0x0102030405060708, math.MaxInt64} {
				for _, note := range []string{"", "a", "\x00", "\xff\xfe", "\u00e4b", "seven..", "\x00\x00\x00\x00\x00\x00\x00\x00", long(8)} {
					out = append(out, at(table, id, val, note))
				}
			}
		}
	}
	return out
}

// badRows are rows that may not be laid.
func badRows() []api.Row {
	var out []api.Row
	for _, table := range []int{math.MinInt, -256, -255, -1, 3, 4, 255, 256, 257, 1 << 32, math.MaxInt} {
		out = append(out, at(table, 0, 0, ""), at(table, 65535, -1, long(8)), at(table, 1, 1, long(9)))
	}
	for _, size := range []int{9, 10, 255, 256, 257, 264, 1 << 16} {
		out = append(out, at(0, 0, 0, long(size)), at(2, 65535, math.MinInt64, long(size)))
	}
	return append(out, at(0, 1, 1, "\u00e4\u00e4\u00e4\u00e4."), at(0, 1, 1, "\x00\x00\x00\x00\x00\x00\x00\x00\x00"))
}

// fullLeaf is a leaf of n rows, each of as many bytes as a row may have.
func fullLeaf(n int) api.Content {
	var rows []api.Row
	for i := range n {
		rows = append(rows, at(i*3/max(n, 3), uint16(5*i), int64(i)-2, long(8)))
	}
	return leaf(rows...)
}

// fullInner is an inner content of n kids.
func fullInner(n int) api.Content {
	var kids []api.Kid
	for i := range n {
		kids = append(kids, on(i*3/max(n, 3), uint16(5*i), 63-i))
	}
	return inner(kids...)
}

// goodContents are contents that may be, of each Kind and each number of parts.
func goodContents() []api.Content {
	out := []api.Content{free, leaf()}
	for _, r := range goodRows() {
		if r.Key.Id < 2 || r.Key.Id > 65533 {
			out = append(out, leaf(r))
		}
	}
	for n := range api.MaxLeaf {
		out = append(out, fullLeaf(n+1))
	}
	for n := 2; n <= api.MaxKids; n++ {
		out = append(out, fullInner(n))
	}
	return append(out,
		leaf(at(0, 0, 0, ""), at(0, 1, 0, "")),
		leaf(at(0, 0, 0, ""), at(1, 0, 0, "")),
		leaf(at(0, 0, 0, ""), at(0, 1, 0, ""), at(0, 2, 0, "")),
		leaf(at(0, 65535, math.MinInt64, "x"), at(1, 0, math.MaxInt64, ""), at(1, 65535, 0, "yz")),
		leaf(at(0, 9, 1, "\x01\x02"), at(1, 8, 2, ""), at(2, 7, 3, "q"), at(2, 8, 4, long(8))),
		leaf(at(2, 65532, -1, ""), at(2, 65533, -2, ""), at(2, 65534, -3, ""), at(2, 65535, -4, "")),
		inner(on(0, 0, 3), on(0, 7, 5)),
		inner(on(0, 0, 1), on(0, 1, 63)),
		inner(on(0, 0, 63), on(0, 1, 1)),
		inner(on(0, 0, 2), on(2, 65535, 1)),
		inner(on(0, 0, 1), on(1, 0, 2), on(2, 0, 3)),
		inner(on(0, 0, 4), on(0, 65535, 3), on(1, 0, 2), on(1, 1, 1)),
		inner(on(0, 0, 4), on(0, 256, 3), on(1, 255, 2), on(2, 0, 1)),
	)
}

// badContents are contents that may not be, and what is wrong with each.
func badContents() map[string]api.Content {
	a, b, c := at(0, 1, 1, "a"), at(0, 2, 2, "b"), at(1, 1, 3, "c")
	k, l, m := on(0, 0, 3), on(0, 7, 5), on(1, 0, 4)
	return map[string]api.Content{
		"free, with a row":              {Kind: api.KindFree, Rows: []api.Row{a}},
		"free, with a kid":              {Kind: api.KindFree, Kids: []api.Kid{k}},
		"free, with two kids":           {Kind: api.KindFree, Kids: []api.Kid{k, l}},
		"a leaf with a kid":             {Kind: api.KindLeaf, Kids: []api.Kid{k}},
		"a leaf with rows and kids":     {Kind: api.KindLeaf, Rows: []api.Row{a, b}, Kids: []api.Kid{k, l}},
		"a row too many":                fullLeaf(api.MaxLeaf + 1),
		"many rows too many":            fullLeaf(300),
		"256 rows more than one":        fullLeaf(257),
		"rows falling by Id":            leaf(b, a),
		"rows falling by Table":         leaf(c, b),
		"the last two falling":          leaf(a, c, b),
		"the first two falling":         leaf(b, a, c),
		"a row twice":                   leaf(a, a),
		"a key twice":                   leaf(a, at(0, 1, 2, "b")),
		"a key twice, at the end":       leaf(a, b, c, at(1, 1, 4, "")),
		"inner, of nothing":             {Kind: api.KindInner},
		"inner, with rows alone":        {Kind: api.KindInner, Rows: []api.Row{a, b}},
		"inner, with a row":             {Kind: api.KindInner, Rows: []api.Row{a}, Kids: []api.Kid{k, l}},
		"one kid":                       inner(k),
		"a kid too many":                fullInner(api.MaxKids + 1),
		"many kids too many":            fullInner(60),
		"256 kids more than two":        fullInner(258),
		"the first Least of Id 1":       inner(on(0, 1, 3), l),
		"the first Least of Table 1":    inner(on(1, 0, 3), on(1, 7, 5)),
		"kids falling by Id":            inner(k, l, on(0, 6, 4)),
		"kids falling by Table":         inner(k, m, l),
		"the zero Least last":           inner(l, k),
		"a Least twice, the zero one":   inner(k, on(0, 0, 5)),
		"a Least twice":                 inner(k, l, on(0, 7, 9)),
		"a Least twice, at the end":     inner(k, l, m, on(1, 0, 9)),
		"a kid twice":                   inner(k, l, l),
		"a Page twice":                  inner(k, on(0, 7, 3)),
		"a Page twice, with one within": inner(k, l, on(1, 0, 3)),
		"a Page twice, the outer two":   inner(k, l, m, on(2, 0, 3)),
		"a Page twice, the last two":    inner(k, l, m, on(2, 0, 4)),
		"Page 0 first":                  inner(on(0, 0, 0), l),
		"Page 0 last":                   inner(k, on(0, 7, 0)),
		"Page 64 first":                 inner(on(0, 0, api.MaxPages), l),
		"Page 64 last":                  inner(k, on(0, 7, api.MaxPages)),
		"Page below nought":             inner(k, on(0, 7, -1)),
		"Page 256 more than one":        inner(k, on(0, 7, 257)),
		"the least Page":                inner(k, on(0, 7, math.MinInt)),
		"the greatest Page":             inner(k, on(0, 7, math.MaxInt)),
		"Table 3 last":                  inner(k, on(3, 0, 5)),
		"Table 3, of three":             inner(k, l, on(3, 0, 4)),
		"Table -1 first":                inner(on(-1, 0, 3), l),
		"Table -1 last":                 inner(k, on(-1, 0, 5)),
		"Table 256":                     inner(k, on(256, 7, 5)),
		"the least Table":               inner(on(math.MinInt, 0, 3), l),
		"the greatest Table":            inner(k, on(math.MaxInt, 0, 5)),
	}
}

// inOrder are contents in the order of their names.
func inOrder(m map[string]api.Content) []api.Content {
	var out []api.Content
	for _, name := range slices.Sorted(maps.Keys(m)) {
		out = append(out, m[name])
	}
	return out
}

// expect holds an error against the one that is wanted.
func expect(t *testing.T, name string, got, want api.Errno) {
	t.Helper()
	if got != want {
		t.Fatalf("%s: error %d, want %d", name, got, want)
	}
}

// checkBytes holds bytes, which are answered with an error, against those that are wanted.
func checkBytes(t *testing.T, name string, got []byte, e api.Errno, want []byte) {
	t.Helper()
	expect(t, name, e, api.OK)
	if !bytes.Equal(got, want) {
		t.Fatalf("%s: % X, want % X", name, got, want)
	}
}

// rowBytes asks Row for the bytes of a row that may be laid.
func rowBytes(t *testing.T, r api.Row) []byte {
	t.Helper()
	b, e := codec.Row(r)
	expect(t, "Row", e, api.OK)
	return b
}

// contentBytes asks Content for the bytes of a content that may be.
func contentBytes(t *testing.T, c api.Content) []byte {
	t.Helper()
	b, e := codec.Content(c)
	expect(t, "Content", e, api.OK)
	return b
}

// tookRow asks TakeRow for a row, and how many bytes it has.
func tookRow(t *testing.T, b []byte, want api.Row, size int) {
	t.Helper()
	r, n, e := codec.TakeRow(b)
	expect(t, "TakeRow", e, api.OK)
	if r != want || n != size {
		t.Fatalf("TakeRow(% X): %v, %d bytes; want %v, %d", b, r, n, want, size)
	}
}

// tookContent asks TakeContent for a content, and how many bytes it has.
func tookContent(t *testing.T, b []byte, want api.Content, size int) {
	t.Helper()
	c, n, e := codec.TakeContent(b)
	expect(t, "TakeContent", e, api.OK)
	if !alike(c, want) || n != size {
		t.Fatalf("TakeContent(% X): %v, %d bytes; want %v, %d", b, c, n, want, size)
	}
}

// noRow asks TakeRow for an error, and nothing beside it.
func noRow(t *testing.T, b []byte, want api.Errno) {
	t.Helper()
	r, n, e := codec.TakeRow(b)
	if e != want || r != (api.Row{}) || n != 0 {
		t.Fatalf("TakeRow(% X): %v, %d bytes, error %d; want error %d", b, r, n, e, want)
	}
}

// noContent asks TakeContent for an error, and nothing beside it.
func noContent(t *testing.T, b []byte, want api.Errno) {
	t.Helper()
	c, n, e := codec.TakeContent(b)
	if e != want || !alike(c, api.Content{}) || n != 0 {
		t.Fatalf("TakeContent(% X): %v, %d bytes, error %d; want error %d", b, c, n, e, want)
	}
}

// alike says whether two contents are the same, with nothing of codec's own.
func alike(a, b api.Content) bool {
	return a.Kind == b.Kind && slices.Equal(a.Rows, b.Rows) && slices.Equal(a.Kids, b.Kids)
}

// cloned is a content that shares no memory with c.
func cloned(c api.Content) api.Content {
	return api.Content{Kind: c.Kind, Rows: slices.Clone(c.Rows), Kids: slices.Clone(c.Kids)}
}

// behind are bytes that may stand behind others.
func behind() [][]byte {
	return [][]byte{nil, {0}, {1}, {2, 2}, {0xFF, 0xFF, 0xFF}, bytes.Repeat([]byte{1}, 100), make([]byte, 1000)}
}

// bytesOf is how numbers of one byte, and texts, stand one behind the other.
func bytesOf(parts ...any) []byte {
	var out []byte
	for _, p := range parts {
		switch x := p.(type) {
		case int:
			out = append(out, byte(x))
		case string:
			out = append(out, x...)
		case []byte:
			out = append(out, x...)
		default:
			panic("bytesOf takes ints, strings and bytes")
		}
	}
	return out
}

// val is how a Val of one byte's worth stands in eight.
func val(x byte) []byte {
	return []byte{0, 0, 0, 0, 0, 0, 0, x}
}

// chance is a row of numbers that seem to come by chance, the same at each run.
type chance uint32

// below is the next one, from 0 on and below n.
func (x *chance) below(n int) int {
	*x = *x*1664525 + 1013904223
	return int(uint32(*x)>>8) % n
}

// margin is how many bytes stand in the room behind the end of roomy ones.
const margin = 40

// roomy is b with room behind its end, which holds marks.
func roomy(b []byte) []byte {
	return slices.Concat(b, bytes.Repeat([]byte{0xEE}, margin))[:len(b)]
}

// checkUntouched asks whether roomy bytes, and the room behind them, are as they were made.
func checkUntouched(t *testing.T, b, want []byte) {
	t.Helper()
	if !bytes.Equal(b, want) || !bytes.Equal(b[len(b):len(b)+margin], bytes.Repeat([]byte{0xEE}, margin)) {
		t.Fatalf("% X is left of % X", b[:len(b)+margin], want)
	}
}

// overwrite changes all bytes, and the room behind them.
func overwrite(b []byte) {
	b = b[:cap(b)]
	for i := range b {
		b[i] = 0x99
	}
}

// overwriteContent changes all rows and kids of a content, and the room behind them.
func overwriteContent(c api.Content) {
	rows, kids := c.Rows[:cap(c.Rows)], c.Kids[:cap(c.Kids)]
	for i := range rows {
		rows[i] = at(99, 9999, 999, "overwritten")
	}
	for i := range kids {
		kids[i] = on(99, 9999, 99)
	}
}
