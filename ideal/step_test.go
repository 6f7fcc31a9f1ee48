package ideal_test

import (
	"fmt"
	"math"
	"slices"
	"testing"

	"bursary/api"
)

// P15.4: all that can be done to rows is so in a transaction, too, whatever it has done before; just its rows change.
func TestStepOfRows(t *testing.T) {
	for _, begun := range [][]api.Row{nil, few(), full()} {
		for _, n := range []int{0, 1, api.MaxMarks} {
			x := api.Serial{Schema: three, Rows: few(), Begun: begun, Marks: marksOf(n)}
			for _, d := range allDoings() {
				left := x
				left.Rows = d.left
				checkStep(t, d.name, x, d.q, left, d.want)
			}
		}
	}
}

// P15.4: a list of as many rows as there may be.
func TestStepOfAFullList(t *testing.T) {
	x := begun(three, full()...)
	checkStep(t, "no room", x, insert(key(0, 0), 5, ""), x, fails(api.ErrFull))
	checkStep(t, "ErrThere ahead of it", x, insert(full()[9].Key, 5, ""), x, fails(api.ErrThere))
	checkStep(t, "ErrBound ahead of both", x, insert(full()[9].Key, 11, ""), x, fails(api.ErrBound))
	left := x
	left.Rows = full()[1:]
	y := checkStep(t, "a row less", x, remove(full()[0].Key), left, fine)
	left.Rows = slices.Insert(full()[1:], 0, at(0, 0, 5, ""))
	checkStep(t, "and another one", y, insert(key(0, 0), 5, ""), left, fine)
}

// P15.4: savepoints have the rows of their time, one behind the other, up to MaxMarks of them.
func TestMark(t *testing.T) {
	x := begun(three, few()...)
	for n := 1; n <= api.MaxMarks; n++ {
		left := x
		left.Marks = append(slices.Clone(x.Marks), x.Rows)
		x = checkStep(t, "Mark", x, mark(), left, counts(n))
		left.Rows = with(at(0, 2, int64(n), "b"))
		x = checkStep(t, "Set behind it", x, set(key(0, 2), int64(n)), left, fine)
	}
	for range 2 {
		x = checkStep(t, "one Mark more", x, mark(), x, fails(api.ErrFull))
	}
	if len(x.Marks) != 8 || !slices.Equal(x.Marks[0], few()) || !slices.Equal(x.Marks[7], with(at(0, 2, 7, "b"))) {
		t.Fatalf("the savepoints are %v", x.Marks)
	}
}

// P15.4: a savepoint of no rows, and one of as many as there may be.
func TestMarkOfNoRowsAndOfAll(t *testing.T) {
	for _, l := range [][]api.Row{nil, {}, full()} {
		x := begun(three, l...)
		left := x
		left.Marks = [][]api.Row{l}
		x = checkStep(t, "Mark", x, mark(), left, counts(1))
		left.Marks = [][]api.Row{l, l}
		x = checkStep(t, "Mark", x, mark(), left, counts(2))
		x = goes(t, x, changesOf(l)...)
		left.Marks = [][]api.Row{l}
		checkStep(t, "Back", x, back(1), left, fine)
	}
}

// changesOf are Deletes of all these rows; if there are none, an Insert.
func changesOf(l []api.Row) []api.Request {
	var out []api.Request
	for _, r := range l {
		out = append(out, remove(r.Key))
	}
	if len(l) == 0 {
		out = append(out, insert(key(0, 0), 0, ""))
	}
	return out
}

// marked is a transaction of n savepoints: at the n'th one the row 0 2 had n as value, and as many behind it.
func marked(t *testing.T, n int) api.Serial {
	t.Helper()
	x := begun(three, few()...)
	for i := range n {
		x = goes(t, x, set(key(0, 2), int64(i+1)), mark())
	}
	return goes(t, x, set(key(0, 2), 10), remove(key(1, 9)), insert(key(2, 2), 2, "new"))
}

// P15.4: back to each savepoint: it stays, those ahead of it too, those behind it are gone.
func TestBack(t *testing.T) {
	for n := 1; n <= api.MaxMarks; n++ {
		x := marked(t, n)
		for to := 1; to <= n; to++ {
			left := x
			left.Rows, left.Marks = with(at(0, 2, int64(to), "b")), slices.Clone(x.Marks[:to])
			y := checkStep(t, "Back", x, back(to), left, fine)
			checkStep(t, "Back once more", y, back(to), left, fine)
			checkStep(t, "Back further than there is", y, back(to+1), y, fails(api.ErrNone))
			left.Rows = slices.Delete(slices.Clone(y.Rows), 0, 1)
			z := checkStep(t, "Delete behind it", y, remove(y.Rows[0].Key), left, fine)
			checkStep(t, "Back over it", z, back(to), y, fine)
		}
	}
}

// P15.4: back to a savepoint that is none.
func TestBackToNone(t *testing.T) {
	for n := range api.MaxMarks + 1 {
		x := marked(t, n)
		for _, to := range []int{n + 1, n + 2, 9, 256 + n, math.MaxInt32, 1<<32 + n, math.MaxInt} {
			if to > n {
				checkStep(t, "Back", x, back(to), x, fails(api.ErrNone))
			}
		}
		for _, to := range []int{0, -1, -n, math.MinInt} {
			if to < 1 {
				checkStep(t, "Back", x, back(to), x, fails(api.ErrRequest))
			}
		}
	}
}

// P15.4: behind a Back the next savepoint has the next number, and the rows of now; one that is kept stays as it was.
func TestMarkBehindBack(t *testing.T) {
	for n := 1; n <= api.MaxMarks; n++ {
		for to := 1; to <= n; to++ {
			x := goes(t, marked(t, n), back(to), set(key(0, 1), 7))
			for i := to + 1; i <= api.MaxMarks; i++ {
				left := x
				left.Marks = append(slices.Clone(x.Marks), x.Rows)
				x = checkStep(t, "Mark", x, mark(), left, counts(i))
			}
			checkStep(t, "Mark", x, mark(), x, fails(api.ErrFull))
			left := x
			left.Rows, left.Marks = with(at(0, 2, int64(to), "b")), slices.Clone(x.Marks[:to])
			checkStep(t, "Back to the one that was kept", x, back(to), left, fine)
		}
	}
}

// P15.4: from one transaction two ways lead on; neither touches what the other one has.
func TestWaysApart(t *testing.T) {
	x := goes(t, begun(three, few()...), mark(), set(key(0, 2), 3), mark())
	a := goes(t, x, set(key(0, 1), 1), mark(), set(key(0, 1), 0))
	b := goes(t, x, set(key(0, 1), 2), mark(), remove(key(0, 1)))
	c := goes(t, x, back(1), set(key(0, 1), 3), mark(), remove(key(0, 2)))
	for _, way := range []struct {
		name string
		x    api.Serial
		n    int
		want []api.Row
	}{
		{"a", a, 3, with(at(0, 1, 1, "a"), at(0, 2, 3, "b"))},
		{"b", b, 3, with(at(0, 1, 2, "a"), at(0, 2, 3, "b"))},
		{"c", c, 2, with(at(0, 1, 3, "a"))},
		{"x", x, 2, with(at(0, 2, 3, "b"))},
	} {
		left := way.x
		left.Rows, left.Marks = way.want, slices.Clone(way.x.Marks[:way.n])
		checkStep(t, way.name, way.x, back(way.n), left, fine)
	}
}

// P15.4: Commit ends a transaction: its rows stay, its savepoints are gone.
func TestCommit(t *testing.T) {
	for name, x := range goodSerials() {
		if x.Over {
			continue
		}
		left := x
		left.Marks, left.Over = nil, true
		checkStep(t, name, x, commit(), left, fine)
	}
}

// P15.4: Abort does too, and the rows are what they were when it began.
func TestAbort(t *testing.T) {
	for name, x := range goodSerials() {
		if x.Over {
			continue
		}
		left := x
		left.Rows, left.Marks, left.Over = x.Begun, nil, true
		checkStep(t, name, x, abort(), left, fine)
	}
}

// P15.4: a request in which what does not count is not zero may not be, whatever it would come to.
func TestStepOfWhatDoesNotCount(t *testing.T) {
	x := marked(t, 3)
	for _, q := range oneOfEach() {
		goes(t, begun(three, few()...), mark(), q)
		for _, p := range littered(q) {
			checkStep(t, "littered", x, p, x, fails(api.ErrRequest))
		}
	}
	x = api.Serial{Schema: three, Rows: few(), Begun: full(), Marks: marksOf(api.MaxMarks)}
	for _, d := range allDoings() {
		for _, q := range littered(d.q) {
			checkStep(t, d.name+", littered", x, q, x, fails(api.ErrRequest))
		}
	}
	x.Rows = full()
	for _, q := range []api.Request{mark(), back(8), back(9), insert(key(0, 0), 5, "a"), commit(), abort()} {
		for _, p := range littered(q) {
			checkStep(t, "ahead of ErrFull and ErrNone", x, p, x, fails(api.ErrRequest))
		}
	}
}

// P15.4: who is over is answered ErrOver, whatever is asked, ahead of ErrRequest.
func TestStepOfWhoIsOver(t *testing.T) {
	for _, last := range []api.Request{commit(), abort()} {
		x := goes(t, marked(t, 2), last)
		for _, q := range slices.Concat(goodRequests(), badRequests()) {
			checkStep(t, fmt.Sprint("behind ", last.Kind), x, q, x, fails(api.ErrOver))
		}
	}
	for name, x := range goodSerials() {
		if x.Over {
			checkStep(t, name, x, read(key(0, 1)), x, fails(api.ErrOver))
			checkStep(t, name, x, commit(), x, fails(api.ErrOver))
		}
	}
}

// P15.4: requests that may not be.
func TestStepOfRequestsThatMayNotBe(t *testing.T) {
	for _, x := range []api.Serial{begun(three), begun(three, full()...), marked(t, 1), marked(t, api.MaxMarks)} {
		for _, q := range badRequests() {
			checkStep(t, "may not be", x, q, x, fails(api.ErrRequest))
		}
	}
	x := begun(example, at(0, 1, 4, ""))
	checkStep(t, "of another schema", x, read(key(1, 1)), x, fails(api.ErrRequest))
	checkStep(t, "of another schema", x, move(key(0, 1), key(1, 1), 0), x, fails(api.ErrRequest))
}

// P15.4: ErrSerial ahead of ErrOver, of ErrRequest, and of what the request comes to; the transaction is as it was, though it may not be.
func TestStepOfWhatMayNotBe(t *testing.T) {
	for name, x := range badSerials() {
		for _, q := range []api.Request{read(key(0, 1)), mark(), back(1), back(9), commit(), abort(), insert(key(0, 0), 11, ""), {}, {Kind: 13}, back(0), read(key(3, 0)), move(key(0, 1), key(0, 1), 1)} {
			checkStep(t, name, x, q, x, fails(api.ErrSerial))
		}
		for _, q := range oneOfEach() {
			for _, p := range littered(q) {
				checkStep(t, name, x, p, x, fails(api.ErrSerial))
			}
		}
	}
}
