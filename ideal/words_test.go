package ideal_test

import (
	"fmt"
	"math"
	"slices"

	"bursary/api"
)

// badSchemas are some that may not be, and what is wrong with each.
func badSchemas() map[string]api.Schema {
	good, bad := api.Bounds{Min: 0, Max: 10}, api.Bounds{Min: 1, Max: 0}
	return map[string]api.Schema{
		"nil":                  {},
		"no table":             {Tables: []api.Bounds{}},
		"a table too many":     {Tables: []api.Bounds{good, good, good, good}},
		"300 tables":           {Tables: slices.Repeat([]api.Bounds{good}, 300)},
		"one more":             {Tables: []api.Bounds{bad}},
		"the first":            {Tables: []api.Bounds{bad, good, good}},
		"the second":           {Tables: []api.Bounds{good, bad, good}},
		"the third":            {Tables: []api.Bounds{good, good, bad}},
		"the widest, turned":   {Tables: []api.Bounds{{Min: math.MaxInt64, Max: math.MinInt64}}},
		"too many, each wrong": {Tables: []api.Bounds{bad, bad, bad, bad}},
	}
}

// full is a list of as many rows as there may be, in all tables of three, with room between their Ids.
func full() []api.Row {
	return someRows(api.MaxRows)
}

// someRows is a list of n rows of three.
func someRows(n int) []api.Row {
	var l []api.Row
	for i := range n {
		l = append(l, at(3*i/max(n, 3), uint16(10*i+5), int64(i%6), long(i%9)))
	}
	return l
}

// goodLists are lists that may be of three.
func goodLists() [][]api.Row {
	return [][]api.Row{nil, {}, someRows(1), someRows(2), someRows(3), someRows(30), someRows(59), full(),
		rows(at(0, 0, 0, ""), at(0, 65535, 10, long(8)), at(1, 0, math.MinInt64, "\x00\xff"), at(1, 65535, math.MaxInt64, ""), at(2, 0, -5, ""), at(2, 65535, 5, "ääää")),
		rows(at(1, 4, 0, ""), at(1, 5, 0, ""))}
}

// badLists are lists that may not be of three, and what is wrong with each.
func badLists() map[string][]api.Row {
	a, b, c := at(0, 1, 1, "a"), at(0, 2, 2, "b"), at(1, 1, 3, "c")
	out := map[string][]api.Row{
		"a row too many":      someRows(api.MaxRows + 1),
		"many rows":           make([]api.Row, 1<<10),
		"out of order by Id":  rows(b, a, c),
		"by Table":            rows(a, c, b),
		"the last two":        rows(a, at(0, 3, 0, ""), b),
		"a row twice":         rows(a, b, b),
		"a key twice":         rows(a, b, at(0, 2, 3, "")),
		"above the bounds":    rows(a, at(0, 2, 11, ""), c),
		"below the bounds":    rows(at(0, 1, -1, ""), b, c),
		"bounds of another":   rows(a, b, at(2, 1, 6, "")),
		"a note too long":     rows(a, b, at(1, 1, 3, long(9))),
		"only a note so":      rows(at(0, 0, 0, long(300))),
		"only a value so":     rows(at(2, 0, -6, "")),
		"a note of few runes": rows(at(0, 0, 0, "äääää")),
	}
	for _, table := range oddTables {
		out[fmt.Sprint("a row of table ", table)] = rows(at(table, 0, 0, ""))
	}
	return out
}

// marksOf is n savepoints, each with rows of its own.
func marksOf(n int) [][]api.Row {
	var out [][]api.Row
	for i := range n {
		out = append(out, someRows(i))
	}
	return out
}

// goodSerials are transactions that may be, over some of them.
func goodSerials() map[string]api.Serial {
	out := map[string]api.Serial{
		"of one table":       begun(example),
		"not nil":            {Schema: three, Rows: rows(), Begun: rows(), Marks: [][]api.Row{}},
		"over, not nil":      {Schema: three, Rows: rows(), Begun: rows(), Marks: [][]api.Row{}, Over: true},
		"over":               {Schema: three, Rows: full(), Begun: someRows(3), Over: true},
		"savepoints of none": {Schema: example, Marks: [][]api.Row{nil, {}, nil}},
		"at both ends":       begun(ends, at(0, 0, math.MinInt64, ""), at(1, 0, math.MaxInt64, ""), at(2, 0, 7, "")),
	}
	for i, l := range goodLists() {
		out[fmt.Sprint("begun ", i)] = begun(three, l...)
		out[fmt.Sprint("worked ", i)] = api.Serial{Schema: three, Rows: l, Begun: someRows(7), Marks: [][]api.Row{l, someRows(4), l}}
		out[fmt.Sprint("emptied ", i)] = api.Serial{Schema: three, Begun: l}
	}
	for n := range api.MaxMarks + 1 {
		out[fmt.Sprint(n, " savepoints")] = api.Serial{Schema: three, Rows: someRows(5), Begun: someRows(2), Marks: marksOf(n)}
	}
	return out
}

// badSerials are transactions that may not be, each for one sentence of the chapter's words alone.
func badSerials() map[string]api.Serial {
	good := api.Serial{Schema: three, Rows: someRows(3), Begun: someRows(2), Marks: marksOf(3)}
	with := func(change func(x *api.Serial)) api.Serial {
		x := good
		x.Marks = slices.Clone(good.Marks)
		change(&x)
		return x
	}
	out := map[string]api.Serial{
		"zero":                       {},
		"over and zero":              {Over: true},
		"a savepoint too many":       with(func(x *api.Serial) { x.Marks = marksOf(api.MaxMarks + 1) }),
		"nine, of nothing":           with(func(x *api.Serial) { x.Marks = make([][]api.Row, 9) }),
		"many savepoints":            with(func(x *api.Serial) { x.Marks = make([][]api.Row, 1<<10) }),
		"over with savepoints":       with(func(x *api.Serial) { x.Over = true }),
		"over with one":              with(func(x *api.Serial) { x.Over, x.Marks = true, marksOf(1) }),
		"rows of another schema":     {Schema: example, Rows: rows(at(1, 0, 0, ""))},
		"begun of another schema":    {Schema: example, Begun: rows(at(1, 0, 0, ""))},
		"savepoint of another":       {Schema: example, Marks: [][]api.Row{rows(at(1, 0, 0, ""))}},
		"rows outside narrow bounds": {Schema: ends, Rows: rows(at(2, 0, 8, ""))},
	}
	for name, s := range badSchemas() {
		out["schema: "+name] = api.Serial{Schema: s}
		out["schema, over: "+name] = api.Serial{Schema: s, Over: true}
	}
	for name, l := range badLists() {
		out["Rows: "+name] = with(func(x *api.Serial) { x.Rows = l })
		out["Begun: "+name] = with(func(x *api.Serial) { x.Begun = l })
		out["over, Rows: "+name] = with(func(x *api.Serial) { x.Rows, x.Marks, x.Over = l, nil, true })
		out["over, Begun: "+name] = with(func(x *api.Serial) { x.Begun, x.Marks, x.Over = l, nil, true })
		for i := range good.Marks {
			out[fmt.Sprint("the savepoint ", i+1, ": ", name)] = with(func(x *api.Serial) { x.Marks[i] = l })
		}
		out["the last of all: "+name] = with(func(x *api.Serial) { x.Marks = append(marksOf(api.MaxMarks-1), l) })
	}
	return out
}

// goodRequests are requests that may be of three, of all Kinds.
func goodRequests() []api.Request {
	out := []api.Request{mark(), commit(), abort(), back(1), back(2), back(api.MaxMarks + 1), back(math.MaxInt)}
	for table := range three.Tables {
		out = append(out, scan(table))
		for _, k := range []api.Key{key(table, 0), key(table, 7), key(table, 65535)} {
			out = append(out, read(k), remove(k))
			for _, text := range []string{"", "a", long(8), "ääää", "\x00\xff\xfe\n\"\\ \t"} {
				out = append(out, insert(k, 3, text), note(k, text))
			}
			for _, val := range []int64{0, 1, -1, 11, math.MinInt64, math.MaxInt64} {
				out = append(out, insert(k, val, "x"), set(k, val), add(k, val))
			}
			for _, val := range []int64{0, 1, 11, math.MaxInt64} {
				out = append(out, move(k, key(table, 8), val), move(k, key((table+1)%3, k.Id), val), move(key(0, 9), k, val))
			}
		}
	}
	return out
}

// badRequests are requests that may not be of three, each for one thing.
func badRequests() []api.Request {
	var out []api.Request
	for _, kind := range []int{0, 13, 14, -1, -12, 256, 257, 256 + 9, 1 << 32, 1<<32 + 1, 1<<32 + 11, math.MaxInt, math.MinInt} {
		out = append(out, api.Request{Kind: kind}, api.Request{Kind: kind, Key: key(0, 1), To: key(0, 2), Val: 1, Note: "a", N: 1})
	}
	for _, table := range oddTables {
		k, good := key(table, 5), key(0, 5)
		out = append(out, read(k), scan(table), insert(k, 3, "a"), remove(k), note(k, "a"), set(k, 3), add(k, 3), move(k, good, 3), move(good, k, 3), move(k, key(table, 6), 3))
	}
	for _, text := range []string{long(9), long(10), long(256), long(264), long(1 << 16), "äääää", "\x00\x00\x00\x00\x00\x00\x00\x00\x00"} {
		out = append(out, insert(key(0, 5), 3, text), note(key(0, 5), text), insert(key(2, 0), 99, text))
	}
	for _, k := range []api.Key{key(0, 0), key(1, 7), key(2, 65535)} {
		out = append(out, move(k, k, 0), move(k, k, 3), move(k, key(0, 1), -1), move(k, key(0, 1), math.MinInt64), move(k, k, -1))
	}
	for _, q := range oneOfEach() {
		out = append(out, littered(q)...)
	}
	return append(out, back(0), back(-1), back(-8), back(math.MinInt))
}

// fields says which of a request's fields count: Key's Table and Id, To, Val, Note, N.
type fields struct {
	table, id, to, val, note, n bool
}

// counting says which fields count of each Kind.
func counting() map[int]fields {
	return map[int]fields{
		api.ReqRead:   {table: true, id: true},
		api.ReqScan:   {table: true},
		api.ReqInsert: {table: true, id: true, val: true, note: true},
		api.ReqDelete: {table: true, id: true},
		api.ReqNote:   {table: true, id: true, note: true},
		api.ReqSet:    {table: true, id: true, val: true},
		api.ReqAdd:    {table: true, id: true, val: true},
		api.ReqMove:   {table: true, id: true, to: true, val: true},
		api.ReqMark:   {},
		api.ReqBack:   {n: true},
		api.ReqCommit: {},
		api.ReqAbort:  {},
	}
}

// oneOfEach is a request of each Kind, each of which may be of few rows, and is answered OK, if there is a savepoint.
func oneOfEach() []api.Request {
	k := key(0, 2)
	return []api.Request{read(k), scan(1), insert(key(0, 9), 5, "n"), remove(k), note(k, "x"), set(k, 1), add(k, 1), move(k, key(0, 1), 1), mark(), back(1), commit(), abort()}
}

// litters are changes of a request in one of the fields that do not count of it each, to another value than zero: such as would do where it counts, such as would not, and such as cut to a byte or to 32 bits would be zero.
func litters(kind int) []func(q *api.Request) {
	c := counting()[kind]
	var out []func(q *api.Request)
	litter := func(counts bool, change func(q *api.Request)) {
		if !counts {
			out = append(out, change)
		}
	}
	for _, table := range append([]int{1, 2}, oddTables...) {
		litter(c.table, func(q *api.Request) { q.Key.Table = table })
		litter(c.to, func(q *api.Request) { q.To.Table = table })
	}
	for _, id := range []uint16{1, 8, 256, 65535} {
		litter(c.id, func(q *api.Request) { q.Key.Id = id })
		litter(c.to, func(q *api.Request) { q.To.Id = id })
	}
	for _, val := range []int64{1, -1, 11, 256, 1 << 32, math.MaxInt64, math.MinInt64} {
		litter(c.val, func(q *api.Request) { q.Val = val })
	}
	for _, text := range []string{"8", "\x00", " ", long(8), long(9), long(256)} {
		litter(c.note, func(q *api.Request) { q.Note = text })
	}
	for _, n := range []int{1, -1, 2, 9, 256, 1 << 32, math.MaxInt, math.MinInt} {
		litter(c.n, func(q *api.Request) { q.N = n })
	}
	return out
}

// littered are requests as this one is, each with something in one field that does not count of it, and one with something in all of these.
func littered(q api.Request) []api.Request {
	var out []api.Request
	all := q
	for _, change := range litters(q.Kind) {
		p := q
		change(&p)
		change(&all)
		out = append(out, p)
	}
	return append(out, all)
}
