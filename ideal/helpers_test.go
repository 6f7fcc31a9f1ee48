package ideal_test

import (
	"math"
	"slices"
	"strings"
	"testing"

	"bursary/api"
	"bursary/ideal"
)

// example is the schema of the chapter's examples.
var example = api.Schema{Tables: []api.Bounds{{Min: 0, Max: 10}}}

// three has as many tables as there may be: of few values, of all, of few about nought.
var three = api.Schema{Tables: []api.Bounds{{Min: 0, Max: 10}, {Min: math.MinInt64, Max: math.MaxInt64}, {Min: -5, Max: 5}}}

// ends has tables whose bounds lie at both ends of 64 bits, and one of a single value.
var ends = api.Schema{Tables: []api.Bounds{{Min: math.MinInt64, Max: math.MinInt64 + 5}, {Min: math.MaxInt64 - 5, Max: math.MaxInt64}, {Min: 7, Max: 7}}}

// oddTables are places of no table. Cut to a byte, or to 32 bits, some would be one.
var oddTables = []int{-1, 3, 4, 256, -256, 1 << 32, -1 << 32, math.MaxInt, math.MinInt}

// key is short for a key.
func key(table int, id uint16) api.Key {
	return api.Key{Table: table, Id: id}
}

// at is short for a row.
func at(table int, id uint16, val int64, note string) api.Row {
	return api.Row{Key: key(table, id), Val: val, Note: note}
}

// rows is short for a list of rows.
func rows(l ...api.Row) []api.Row {
	return l
}

// long is a note of n bytes.
func long(n int) string {
	return strings.Repeat("n", n)
}

// read is short for a request, as those that follow are.
func read(k api.Key) api.Request {
	return api.Request{Kind: api.ReqRead, Key: k}
}

func scan(table int) api.Request {
	return api.Request{Kind: api.ReqScan, Key: api.Key{Table: table}}
}

func insert(k api.Key, val int64, note string) api.Request {
	return api.Request{Kind: api.ReqInsert, Key: k, Val: val, Note: note}
}

func remove(k api.Key) api.Request {
	return api.Request{Kind: api.ReqDelete, Key: k}
}

func note(k api.Key, text string) api.Request {
	return api.Request{Kind: api.ReqNote, Key: k, Note: text}
}

func set(k api.Key, val int64) api.Request {
	return api.Request{Kind: api.ReqSet, Key: k, Val: val}
}

func add(k api.Key, val int64) api.Request {
	return api.Request{Kind: api.ReqAdd, Key: k, Val: val}
}

func move(from, to api.Key, val int64) api.Request {
	return api.Request{Kind: api.ReqMove, Key: from, To: to, Val: val}
}

func mark() api.Request {
	return api.Request{Kind: api.ReqMark}
}

func back(n int) api.Request {
	return api.Request{Kind: api.ReqBack, N: n}
}

func commit() api.Request {
	return api.Request{Kind: api.ReqCommit}
}

func abort() api.Request {
	return api.Request{Kind: api.ReqAbort}
}

// fails is the answer that says an error alone.
func fails(e api.Errno) api.Answer {
	return api.Answer{Err: e}
}

// fine is the answer that says nothing but that all went well.
var fine = api.Answer{}

// tells is the answer that tells rows.
func tells(l ...api.Row) api.Answer {
	return api.Answer{Rows: l}
}

// counts is the answer that tells a number.
func counts(n int) api.Answer {
	return api.Answer{N: n}
}

// alikeAnswer says whether two answers are the same, with nothing of the program's own.
func alikeAnswer(a, b api.Answer) bool {
	return a.Err == b.Err && slices.Equal(a.Rows, b.Rows) && a.N == b.N
}

// alikeLists says whether two lists of lists are the same.
func alikeLists(a, b [][]api.Row) bool {
	return slices.EqualFunc(a, b, slices.Equal[[]api.Row])
}

// alike says whether two transactions are the same.
func alike(a, b api.Serial) bool {
	return slices.Equal(a.Schema.Tables, b.Schema.Tables) && slices.Equal(a.Rows, b.Rows) && slices.Equal(a.Begun, b.Begun) && alikeLists(a.Marks, b.Marks) && a.Over == b.Over
}

// margin is how many items stand in the room behind the end of a roomy list.
const margin = 3

// room is what stands in that room.
var (
	roomTable = api.Bounds{Min: 77, Max: -77}
	roomRow   = at(77, 7777, 777, "room")
	roomMark  = rows(roomRow)
)

// roomySchema is a copy of a schema with room behind its end.
func roomySchema(s api.Schema) api.Schema {
	return api.Schema{Tables: slices.Concat(s.Tables, slices.Repeat([]api.Bounds{roomTable}, margin))[:len(s.Tables)]}
}

// roomy is a copy of a list of rows with room behind its end.
func roomy(l []api.Row) []api.Row {
	return slices.Concat(l, slices.Repeat(rows(roomRow), margin))[:len(l)]
}

// roomySerial is a copy of a transaction with room behind the ends of all its lists.
func roomySerial(x api.Serial) api.Serial {
	out := api.Serial{Schema: roomySchema(x.Schema), Rows: roomy(x.Rows), Begun: roomy(x.Begun), Over: x.Over}
	for _, l := range x.Marks {
		out.Marks = append(out.Marks, roomy(l))
	}
	out.Marks = append(slices.Clip(out.Marks), slices.Repeat([][]api.Row{roomMark}, margin)...)[:len(x.Marks)]
	return out
}

// keptSchema says whether a roomy schema, and the room behind it, is as it was made.
func keptSchema(s, want api.Schema) bool {
	return slices.Equal(s.Tables, want.Tables) && slices.Equal(s.Tables[len(s.Tables):][:margin], slices.Repeat([]api.Bounds{roomTable}, margin))
}

// kept says whether a roomy list, and the room behind it, is as it was made.
func kept(l, want []api.Row) bool {
	return slices.Equal(l, want) && slices.Equal(l[len(l):][:margin], slices.Repeat(rows(roomRow), margin))
}

// keptSerial says whether a roomy transaction, and the room behind its lists, is as it was made.
func keptSerial(x, want api.Serial) bool {
	for i, l := range x.Marks {
		if i >= len(want.Marks) || !kept(l, want.Marks[i]) {
			return false
		}
	}
	behind := x.Marks[len(x.Marks):][:margin]
	return alike(x, want) && keptSchema(x.Schema, want.Schema) && kept(x.Rows, want.Rows) && kept(x.Begun, want.Begun) &&
		alikeLists(behind, slices.Repeat([][]api.Row{roomMark}, margin))
}

// expect holds an error against the one that is wanted.
func expect(t *testing.T, name string, got, want api.Errno) {
	t.Helper()
	if got != want {
		t.Fatalf("%s: error %d, want %d", name, got, want)
	}
}

// requestOf asks CheckRequest; whatever is asked, what is handed in stays.
func requestOf(t *testing.T, s api.Schema, q api.Request) api.Errno {
	t.Helper()
	in := roomySchema(s)
	e := ideal.CheckRequest(in, q)
	if !keptSchema(in, s) {
		t.Fatalf("CheckRequest(%v): %v is left of %v", q, in, s)
	}
	return e
}

// checkOf asks Check; whatever is asked, what is handed in stays.
func checkOf(t *testing.T, x api.Serial) api.Errno {
	t.Helper()
	in := roomySerial(x)
	e := ideal.Check(in)
	if !keptSerial(in, x) {
		t.Fatalf("Check: %v is left of %v", in, x)
	}
	return e
}

// begin asks Begin; whatever is asked, what is handed in stays, and beside an error there is nothing.
func begin(t *testing.T, s api.Schema, l []api.Row) (api.Serial, api.Errno) {
	t.Helper()
	inS, inL := roomySchema(s), roomy(l)
	x, e := ideal.Begin(inS, inL)
	if !keptSchema(inS, s) || !kept(inL, l) {
		t.Fatalf("Begin: %v, %v is left of %v, %v", inS, inL, s, l)
	}
	if e != api.OK && !alike(x, api.Serial{}) {
		t.Fatalf("Begin: %v beside the error %d", x, e)
	}
	return x, e
}

// do asks Do; whatever is asked, what is handed in stays, and of an error the rows are as they were.
func do(t *testing.T, s api.Schema, l []api.Row, q api.Request) ([]api.Row, api.Answer) {
	t.Helper()
	inS, inL := roomySchema(s), roomy(l)
	out, a := ideal.Do(inS, inL, q)
	if !keptSchema(inS, s) || !kept(inL, l) {
		t.Fatalf("Do(%v): %v, %v is left of %v, %v", q, inS, inL, s, l)
	}
	if a.Err != api.OK && (!slices.Equal(out, l) || !alikeAnswer(a, fails(a.Err))) {
		t.Fatalf("Do(%v): %v, %v of %v", q, out, a, l)
	}
	return out, a
}

// step asks Step; whatever is asked, what is handed in stays, and of an error the transaction is as it was.
func step(t *testing.T, x api.Serial, q api.Request) (api.Serial, api.Answer) {
	t.Helper()
	in := roomySerial(x)
	out, a := ideal.Step(in, q)
	if !keptSerial(in, x) {
		t.Fatalf("Step(%v): %v is left of %v", q, in, x)
	}
	if a.Err != api.OK && (!alike(out, x) || !alikeAnswer(a, fails(a.Err))) {
		t.Fatalf("Step(%v): %v, %v of %v", q, out, a, x)
	}
	return out, a
}

// checkDo holds what Do comes to against what is wanted.
func checkDo(t *testing.T, name string, s api.Schema, l []api.Row, q api.Request, left []api.Row, want api.Answer) {
	t.Helper()
	out, a := do(t, s, l, q)
	if !alikeAnswer(a, want) {
		t.Fatalf("%s: Do(%v) of %v answers %v, want %v", name, q, l, a, want)
	}
	if !slices.Equal(out, left) {
		t.Fatalf("%s: Do(%v) of %v leaves %v, want %v", name, q, l, out, left)
	}
}

// checkStep holds what Step comes to against what is wanted, and is the transaction behind it.
func checkStep(t *testing.T, name string, x api.Serial, q api.Request, left api.Serial, want api.Answer) api.Serial {
	t.Helper()
	out, a := step(t, x, q)
	if !alikeAnswer(a, want) {
		t.Fatalf("%s: Step(%v) of %v answers %v, want %v", name, q, x, a, want)
	}
	if !alike(out, left) {
		t.Fatalf("%s: Step(%v) of %v leaves %v, want %v", name, q, x, out, left)
	}
	return out
}

// begun is a transaction that has just begun.
func begun(s api.Schema, l ...api.Row) api.Serial {
	return api.Serial{Schema: s, Rows: l, Begun: l}
}

// goes asks for requests one behind the other, each of which is to be answered with no error, and is the transaction behind them.
func goes(t *testing.T, x api.Serial, requests ...api.Request) api.Serial {
	t.Helper()
	for _, q := range requests {
		out, a := step(t, x, q)
		expect(t, "a step on the way", a.Err, api.OK)
		x = out
	}
	return x
}

// dice are numbers that hang on how many were thrown alone.
type dice uint32

// throw is a number from 0 on and below n.
func (d *dice) throw(n int) int {
	*d = *d*1664525 + 1013904223
	return int(*d>>16) % n
}

// one is one of these.
func one[T any](d *dice, all ...T) T {
	return all[d.throw(len(all))]
}
