package ideal_test

import (
	"fmt"
	"maps"
	"math"
	"slices"
	"testing"

	"bursary/api"
	"bursary/ideal"
)

// P15.1: requests that may be, of each Kind.
func TestCheckRequest(t *testing.T) {
	met := map[int]int{}
	for _, q := range goodRequests() {
		met[q.Kind]++
		expect(t, fmt.Sprint(q), requestOf(t, three, q), api.OK)
	}
	for kind := api.ReqRead; kind <= api.ReqAbort; kind++ {
		if met[kind] == 0 {
			t.Fatalf("no request of Kind %d was asked", kind)
		}
	}
}

// P15.1: requests that may not be, each for one thing.
func TestCheckRequestOfWhatMayNotBe(t *testing.T) {
	for _, q := range badRequests() {
		expect(t, fmt.Sprint(q), requestOf(t, three, q), api.ErrRequest)
	}
}

// P15.1: what does not count of a Kind is zero: field by field, with all else as it may be, and beside what may not be.
func TestCheckRequestOfWhatDoesNotCount(t *testing.T) {
	for _, q := range oneOfEach() {
		expect(t, fmt.Sprint(q), requestOf(t, three, q), api.OK)
	}
	for _, q := range slices.Concat(goodRequests(), oneOfEach(), badRequests()) {
		if _, is := counting()[q.Kind]; !is {
			continue
		}
		for _, p := range littered(q) {
			expect(t, fmt.Sprint(p), requestOf(t, three, p), api.ErrRequest)
		}
	}
}

// P15.1: of each Kind something was laid in each field that does not count, as the table's column says it.
func TestLittersAreOfEachField(t *testing.T) {
	for kind, want := range map[int]int{
		api.ReqRead: 4, api.ReqScan: 5, api.ReqInsert: 2, api.ReqDelete: 4, api.ReqNote: 3, api.ReqSet: 3,
		api.ReqAdd: 3, api.ReqMove: 2, api.ReqMark: 6, api.ReqBack: 5, api.ReqCommit: 6, api.ReqAbort: 6} {
		met := map[string]int{}
		for _, change := range litters(kind) {
			var q api.Request
			change(&q)
			for name, is := range map[string]bool{"Table": q.Key.Table != 0, "Id": q.Key.Id != 0, "To": q.To != api.Key{}, "Val": q.Val != 0, "Note": q.Note != "", "N": q.N != 0} {
				if is {
					met[name]++
				}
			}
		}
		if len(met) != want {
			t.Fatalf("of the Kind %d something was laid in %v, want %d fields", kind, met, want)
		}
	}
}

// mayBeOfOne says by the table of the chapter's words whether a request may be of the schema of the examples, which has one table.
func mayBeOfOne(q api.Request) bool {
	c, is := counting()[q.Kind]
	bare := (c.table || q.Key.Table == 0) && (c.id || q.Key.Id == 0) && (c.to || q.To == api.Key{}) && (c.val || q.Val == 0) && (c.note || q.Note == "") && (c.n || q.N == 0)
	switch {
	case !is || !bare || q.Key.Table != 0 || q.To.Table != 0 || len(q.Note) > 8:
		return false
	case q.Kind == api.ReqMove:
		return q.To.Id != q.Key.Id && q.Val >= 0
	case q.Kind == api.ReqBack:
		return q.N >= 1
	}
	return true
}

// P15.1: all requests of few values in each field, held against the words.
func TestCheckRequestOfFewValues(t *testing.T) {
	met := map[int]int{}
	for kind := -1; kind <= 14; kind++ {
		for i := range 2 * 2 * 2 * 2 * 3 * 3 * 3 {
			pick := func(n int) int { at := i % n; i /= n; return at }
			q := api.Request{Kind: kind, Key: key(pick(2), uint16(pick(2))), To: key(pick(2), uint16(pick(2))), Val: int64(pick(3)) - 1, Note: []string{"", "a", long(9)}[pick(3)], N: pick(3) - 1}
			want := api.ErrRequest
			if mayBeOfOne(q) {
				want = api.OK
				met[kind]++
			}
			expect(t, fmt.Sprint(q), requestOf(t, example, q), want)
		}
	}
	if want := map[int]int{1: 2, 2: 1, 3: 12, 4: 2, 5: 4, 6: 6, 7: 6, 8: 4, 9: 1, 10: 1, 11: 1, 12: 1}; !maps.Equal(met, want) {
		t.Fatalf("how many of each Kind may be: %v, want %v", met, want)
	}
}

// P15.1: which keys may be hangs on the schema.
func TestCheckRequestOfAnotherSchema(t *testing.T) {
	two := api.Schema{Tables: three.Tables[:2]}
	for table, counts := range []struct{ one, two api.Errno }{{api.OK, api.OK}, {api.ErrRequest, api.OK}, {api.ErrRequest, api.ErrRequest}} {
		k := key(table, 3)
		for _, q := range []api.Request{read(k), scan(table), insert(k, 1, ""), remove(k), note(k, ""), set(k, 1), add(k, 1), move(k, key(0, 9), 1), move(key(0, 9), k, 1)} {
			expect(t, fmt.Sprint("of one table: ", q), requestOf(t, example, q), counts.one)
			expect(t, fmt.Sprint("of two: ", q), requestOf(t, two, q), counts.two)
		}
	}
}

// P15.1: a value outside the bounds makes no request that may not be.
func TestCheckRequestDoesNotAskForBounds(t *testing.T) {
	for _, val := range []int64{-1, 11, math.MinInt64, math.MaxInt64} {
		for _, q := range []api.Request{insert(key(0, 1), val, ""), set(key(0, 1), val), add(key(0, 1), val)} {
			expect(t, fmt.Sprint(q), requestOf(t, example, q), api.OK)
		}
	}
	expect(t, "Move", requestOf(t, example, move(key(0, 1), key(0, 2), math.MaxInt64)), api.OK)
}

// P15.1: ErrSchema ahead of ErrRequest, whatever is asked.
func TestCheckRequestOfASchemaThatMayNotBe(t *testing.T) {
	for name, s := range badSchemas() {
		for _, q := range append(goodRequests(), badRequests()...) {
			expect(t, fmt.Sprint(name, ": ", q), requestOf(t, s, q), api.ErrSchema)
		}
	}
}

// P15.1: transactions that may be.
func TestCheck(t *testing.T) {
	for name, x := range goodSerials() {
		expect(t, name, checkOf(t, x), api.OK)
	}
}

// P15.1: transactions that may not be, each for one sentence.
func TestCheckOfWhatMayNotBe(t *testing.T) {
	for name, x := range badSerials() {
		expect(t, name, checkOf(t, x), api.ErrSerial)
	}
}

// P15.1: as many savepoints as there may be, and one more; over with savepoints, and without them.
func TestCheckOfSavepoints(t *testing.T) {
	for n := range 12 {
		want := api.OK
		if n > 8 {
			want = api.ErrSerial
		}
		x := api.Serial{Schema: three, Marks: marksOf(n)}
		expect(t, fmt.Sprint(n, " savepoints"), checkOf(t, x), want)
		if n > 0 {
			want = api.ErrSerial
		}
		x.Over = true
		expect(t, fmt.Sprint("over, ", n, " savepoints"), checkOf(t, x), want)
	}
}

// R1: what has very many rows, savepoints, bytes is seen through at once.
func TestVeryMany(t *testing.T) {
	many := make([]api.Row, 1<<20)
	expect(t, "Rows", ideal.Check(api.Serial{Schema: three, Rows: many}), api.ErrSerial)
	expect(t, "Begun", ideal.Check(api.Serial{Schema: three, Begun: many}), api.ErrSerial)
	expect(t, "Marks", ideal.Check(api.Serial{Schema: three, Marks: make([][]api.Row, 1<<20)}), api.ErrSerial)
	expect(t, "a savepoint", ideal.Check(api.Serial{Schema: three, Marks: [][]api.Row{many}}), api.ErrSerial)
	expect(t, "a schema", ideal.CheckRequest(api.Schema{Tables: make([]api.Bounds, 1<<20)}, mark()), api.ErrSchema)
	expect(t, "a note", ideal.CheckRequest(three, note(key(0, 1), long(1<<24))), api.ErrRequest)
	out, a := ideal.Do(three, many, read(key(0, 0)))
	if a.Err != api.ErrRow || len(out) != len(many) {
		t.Fatalf("Do: error %d, %d rows", a.Err, len(out))
	}
	x, a := ideal.Step(api.Serial{Schema: three, Marks: make([][]api.Row, 1<<20)}, mark())
	if a.Err != api.ErrSerial || len(x.Marks) != 1<<20 {
		t.Fatalf("Step: error %d, %d savepoints", a.Err, len(x.Marks))
	}
}
