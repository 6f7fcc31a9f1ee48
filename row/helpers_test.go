package row_test

import (
	"math"
	"slices"
	"strings"
	"testing"

	"bursary/api"
	"bursary/row"
)

// example is the schema of the chapter's examples.
var example = api.Schema{Tables: []api.Bounds{{Min: 0, Max: 10}, {Min: -5, Max: 5}}}

// wide has as many tables as there may be: of all values, of one, of few.
var wide = api.Schema{Tables: []api.Bounds{{Min: math.MinInt64, Max: math.MaxInt64}, {Min: 7, Max: 7}, {Min: -5, Max: 5}}}

// key is short for a key.
func key(table int, id uint16) api.Key {
	return api.Key{Table: table, Id: id}
}

// at is short for a row.
func at(table int, id uint16, val int64, note string) api.Row {
	return api.Row{Key: key(table, id), Val: val, Note: note}
}

// long is a note of n bytes.
func long(n int) string {
	return strings.Repeat("n", n)
}

// badSchemas are some that may not be, and what is wrong with each.
func badSchemas() map[string]api.Schema {
	good := api.Bounds{Min: 0, Max: 10}
	bad := api.Bounds{Min: 1, Max: 0}
	return map[string]api.Schema{
		"nil":                    {},
		"no table":               {Tables: []api.Bounds{}},
		"a table too many":       {Tables: []api.Bounds{good, good, good, good}},
		"300 tables":             {Tables: slices.Repeat([]api.Bounds{good}, 300)},
		"too many, and bad ones": {Tables: []api.Bounds{bad, bad, bad, bad}},
		"one more":               {Tables: []api.Bounds{bad}},
		"one more, below nought": {Tables: []api.Bounds{{Min: -4, Max: -5}}},
		"the first":              {Tables: []api.Bounds{bad, good, good}},
		"the second":             {Tables: []api.Bounds{good, bad, good}},
		"the third":              {Tables: []api.Bounds{good, good, bad}},
		"the last of two":        {Tables: []api.Bounds{good, bad}},
		"the widest, turned":     {Tables: []api.Bounds{{Min: math.MaxInt64, Max: math.MinInt64}}},
		"above the greatest":     {Tables: []api.Bounds{{Min: math.MaxInt64, Max: math.MaxInt64 - 1}}},
		"below the least":        {Tables: []api.Bounds{{Min: math.MinInt64 + 1, Max: math.MinInt64}}},
	}
}

// badLists are lists that may not be of example, and what is wrong with each.
func badLists() map[string][]api.Row {
	a, b, c := at(0, 1, 1, "a"), at(0, 2, 2, "b"), at(1, 1, 3, "c")
	return map[string][]api.Row{
		"a row too many":            listOf(api.MaxRows + 1),
		"twice as many":             listOf(2 * api.MaxRows),
		"out of order by Id":        {b, a, c},
		"out of order by Table":     {a, c, b},
		"falling":                   {c, b, a},
		"the last two out of order": {a, at(0, 3, 0, ""), b},
		"a key twice":               {a, a},
		"a key twice, at the end":   {a, b, c, c},
		"a key twice, unlike rows":  {a, b, at(0, 2, 3, "")},
		"no such table":             {a, b, at(2, 1, 0, "")},
		"a table below nought":      {at(-1, 1, 0, ""), a, b},
		"above the bounds":          {a, at(0, 2, 11, ""), c},
		"below the bounds":          {at(0, 1, -1, ""), b, c},
		"bounds of another table":   {a, b, at(1, 1, 6, "")},
		"a note too long":           {a, b, at(1, 1, 3, long(9))},
		"one that may not be":       {at(3, 0, 0, "")},
		"one of too long a note":    {at(0, 0, 0, long(9))},
		"one out of its bounds":     {at(1, 0, -6, "")},
	}
}

// listOf is a list of n rows of example, in two tables from 6 on; their Ids have room between them.
func listOf(n int) []api.Row {
	var l []api.Row
	for i := range n {
		table := 2 * i / max(n, 6)
		l = append(l, at(table, uint16(10*i+5), int64(i%6), long(i%9)))
	}
	return l
}

// goodLists are lists that may be of example, of all lengths and some shapes.
func goodLists() [][]api.Row {
	var out [][]api.Row
	for n := range api.MaxRows + 1 {
		out = append(out, listOf(n))
	}
	return append(out,
		[]api.Row{},
		[]api.Row{at(0, 0, 0, ""), at(0, math.MaxUint16, 10, long(8)), at(1, 0, -5, "\x00\xff"), at(1, math.MaxUint16, 5, "")},
		[]api.Row{at(1, 4, 0, ""), at(1, 5, 0, "")},
		[]api.Row{at(0, 9, 1, ""), at(1, 3, 1, "")},
	)
}

// keysAround are all keys of the list, and those right beside each, of tables that are there and that are not.
func keysAround(l []api.Row) []api.Key {
	out := []api.Key{key(0, 0), key(0, math.MaxUint16), key(1, 0), key(1, math.MaxUint16)}
	for _, r := range l {
		k := r.Key
		out = append(out, k, key(k.Table, k.Id-1), key(k.Table, k.Id+1), key(1-k.Table, k.Id))
	}
	return out
}

// margin is how many rows stand in the room behind the end of a roomy list.
const margin = 3

// mark is what stands in that room.
var mark = at(77, 7777, 777, "room")

// roomy is a list with room behind its end, which holds marks.
func roomy(l []api.Row) []api.Row {
	return slices.Concat(l, slices.Repeat([]api.Row{mark}, margin))[:len(l)]
}

// checkUntouched asks whether a roomy list, and the room behind it, are as they were made.
func checkUntouched(t *testing.T, name string, l, want []api.Row) {
	t.Helper()
	if !slices.Equal(l, want) || !slices.Equal(l[len(l):len(l)+margin], slices.Repeat([]api.Row{mark}, margin)) {
		t.Fatalf("%s: %v is left of %v", name, l[:len(l)+margin], want)
	}
}

// overwrite changes all of a list, and the room behind its end.
func overwrite(l []api.Row) {
	l = l[:cap(l)]
	for i := range l {
		l[i] = at(99, 9999, 999, "overwritten")
	}
}

// expect holds an error against the one that is wanted.
func expect(t *testing.T, name string, got, want api.Errno) {
	t.Helper()
	if got != want {
		t.Fatalf("%s: error %d, want %d", name, got, want)
	}
}

// checkList holds a list, which is answered with an error, against the one that is wanted.
func checkList(t *testing.T, name string, got []api.Row, e api.Errno, want []api.Row) {
	t.Helper()
	expect(t, name, e, api.OK)
	if !slices.Equal(got, want) {
		t.Fatalf("%s: %v, want %v", name, got, want)
	}
}

// refusedPut asks Put for an error, and nothing beside it.
func refusedPut(t *testing.T, name string, s api.Schema, l []api.Row, r api.Row, want api.Errno) {
	t.Helper()
	out, e := row.Put(s, l, r)
	expect(t, name+": Put", e, want)
	if len(out) != 0 {
		t.Fatalf("%s: Put: error %d, and %v", name, e, out)
	}
}

// refusedTake asks Take for an error, and nothing beside it.
func refusedTake(t *testing.T, name string, s api.Schema, l []api.Row, k api.Key, want api.Errno) {
	t.Helper()
	out, r, e := row.Take(s, l, k)
	expect(t, name+": Take", e, want)
	if len(out) != 0 || r != (api.Row{}) {
		t.Fatalf("%s: Take: error %d, and %v, %v", name, e, out, r)
	}
}

// rank is a number that rises along the order of keys, of tables that are not far from nought.
func rank(k api.Key) int64 {
	return int64(k.Table)<<16 + int64(k.Id)
}

// put is what Put is to come to: the other rows, and that one, sorted.
func put(l []api.Row, r api.Row) []api.Row {
	return sorted(append(take(l, r.Key), r))
}

// take is what Take is to leave: the other rows.
func take(l []api.Row, k api.Key) []api.Row {
	var out []api.Row
	for _, r := range l {
		if rank(r.Key) != rank(k) {
			out = append(out, r)
		}
	}
	return out
}

// sorted is the rows in order, each moved ahead as long as one of a greater rank is in front of it.
func sorted(l []api.Row) []api.Row {
	out := slices.Clone(l)
	for i := range out {
		for j := i; j > 0 && rank(out[j-1].Key) > rank(out[j].Key); j-- {
			out[j-1], out[j] = out[j], out[j-1]
		}
	}
	return out
}

// has says whether a row of that key is there.
func has(l []api.Row, k api.Key) bool {
	return len(take(l, k)) < len(l)
}
