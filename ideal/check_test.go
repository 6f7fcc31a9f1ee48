package ideal_test

import (
	"fmt"
	"math"
	"testing"

	"bursary/api"
	"bursary/ideal"
)

// P15.1: requests that may be, of each Kind.
func TestCheckRequest(t *testing.T) {
	met := map[int]int{}
	for _, q := range goodRequests() {
		met[q.Kind]++
		expect(t, fmt.Sprint(q), requestOf(t, three, q), api.OK)
	}
	for kind := api.ReqRead; kind <= api.ReqAbort; kind++ {
		if met[kind] == 0 {
			t.Fatalf("no request of Kind %d was asked", kind)
		}
	}
}

// P15.1: requests that may not be, each for one thing.
func TestCheckRequestOfWhatMayNotBe(t *testing.T) {
	for _, q := range badRequests() {
		expect(t, fmt.Sprint(q), requestOf(t, three, q), api.ErrRequest)
	}
}

// P15.1: what does not count makes no difference, at whatever value.
func TestCheckRequestOfWhatDoesNotCount(t *testing.T) {
	for _, litter := range litters() {
		for _, q := range goodRequests() {
			expect(t, fmt.Sprint(littered(q, litter)), requestOf(t, three, littered(q, litter)), api.OK)
		}
		for _, q := range badRequests() {
			if _, is := counting()[q.Kind]; is {
				expect(t, fmt.Sprint(littered(q, litter)), requestOf(t, three, littered(q, litter)), api.ErrRequest)
			}
		}
	}
}

// P15.1: which keys may be hangs on the schema.
func TestCheckRequestOfAnotherSchema(t *testing.T) {
	two := api.Schema{Tables: three.Tables[:2]}
	for table, counts := range []struct{ one, two api.Errno }{{api.OK, api.OK}, {api.ErrRequest, api.OK}, {api.ErrRequest, api.ErrRequest}} {
		k := key(table, 3)
		for _, q := range []api.Request{read(k), scan(table), insert(k, 1, ""), remove(k), note(k, ""), set(k, 1), add(k, 1), move(k, key(0, 9), 1), move(key(0, 9), k, 1)} {
			expect(t, fmt.Sprint("of one table: ", q), requestOf(t, example, q), counts.one)
			expect(t, fmt.Sprint("of two: ", q), requestOf(t, two, q), counts.two)
		}
	}
}

// P15.1: a value outside the bounds makes no request that may not be.
func TestCheckRequestDoesNotAskForBounds(t *testing.T) {
	for _, val := range []int64{-1, 11, math.MinInt64, math.MaxInt64} {
		for _, q := range []api.Request{insert(key(0, 1), val, ""), set(key(0, 1), val), add(key(0, 1), val)} {
			expect(t, fmt.Sprint(q), requestOf(t, example, q), api.OK)
		}
	}
	expect(t, "Move", requestOf(t, example, move(key(0, 1), key(0, 2), math.MaxInt64)), api.OK)
}

// P15.1: ErrSchema ahead of ErrRequest, whatever is asked.
func TestCheckRequestOfASchemaThatMayNotBe(t *testing.T) {
	for name, s := range badSchemas() {
		for _, q := range append(goodRequests(), badRequests()...) {
			expect(t, fmt.Sprint(name, ": ", q), requestOf(t, s, q), api.ErrSchema)
		}
	}
}

// P15.1: transactions that may be.
func TestCheck(t *testing.T) {
	for name, x := range goodSerials() {
		expect(t, name, checkOf(t, x), api.OK)
	}
}

// P15.1: transactions that may not be, each for one sentence.
func TestCheckOfWhatMayNotBe(t *testing.T) {
	for name, x := range badSerials() {
		expect(t, name, checkOf(t, x), api.ErrSerial)
	}
}

// P15.1: as many savepoints as there may be, and one more; over with savepoints, and without them.
func TestCheckOfSavepoints(t *testing.T) {
	for n := range 12 {
		want := api.OK
		if n > 8 {
			want = api.ErrSerial
		}
		x := api.Serial{Schema: three, Marks: marksOf(n)}
		expect(t, fmt.Sprint(n, " savepoints"), checkOf(t, x), want)
		if n > 0 {
			want = api.ErrSerial
		}
		x.Over = true
		expect(t, fmt.Sprint("over, ", n, " savepoints"), checkOf(t, x), want)
	}
}

// R1: what has very many rows, savepoints, bytes is seen through at once.
func TestVeryMany(t *testing.T) {
	many := make([]api.Row, 1<<20)
	expect(t, "Rows", ideal.Check(api.Serial{Schema: three, Rows: many}), api.ErrSerial)
	expect(t, "Begun", ideal.Check(api.Serial{Schema: three, Begun: many}), api.ErrSerial)
	expect(t, "Marks", ideal.Check(api.Serial{Schema: three, Marks: make([][]api.Row, 1<<20)}), api.ErrSerial)
	expect(t, "a savepoint", ideal.Check(api.Serial{Schema: three, Marks: [][]api.Row{many}}), api.ErrSerial)
	expect(t, "a schema", ideal.CheckRequest(api.Schema{Tables: make([]api.Bounds, 1<<20)}, mark()), api.ErrSchema)
	expect(t, "a note", ideal.CheckRequest(three, note(key(0, 1), long(1<<24))), api.ErrRequest)
	out, a := ideal.Do(three, many, read(key(0, 0)))
	if a.Err != api.ErrRow || len(out) != len(many) {
		t.Fatalf("Do: error %d, %d rows", a.Err, len(out))
	}
	x, a := ideal.Step(api.Serial{Schema: three, Marks: make([][]api.Row, 1<<20)}, mark())
	if a.Err != api.ErrSerial || len(x.Marks) != 1<<20 {
		t.Fatalf("Step: error %d, %d savepoints", a.Err, len(x.Marks))
	}
}
