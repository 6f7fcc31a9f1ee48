package ideal_test

import (
	"math/big"
	"slices"
	"testing"

	"bursary/api"
	"bursary/ideal"
	"bursary/row"
)

// walks goes through long rows of requests, and tells each step: the transaction ahead of it, the request, the transaction behind it, and the answer.
func walks(t *testing.T, tell func(x api.Serial, q api.Request, y api.Serial, a api.Answer)) {
	t.Helper()
	for seed := range 30 {
		d := dice(seed*15485863 + 3)
		ids := one(&d, 2, 5, 30)
		x := begun(three, one(&d, nil, few(), someRows(20), full())...)
		for range 150 {
			q := someRequest(&d, ids)
			y, a := step(t, x, q)
			tell(x, q, y, a)
			x = y
		}
	}
}

// P15.6: what comes may be: each transaction, each list of rows, and each row that is told.
func TestWhatComesMayBe(t *testing.T) {
	n := 0
	walks(t, func(_ api.Serial, q api.Request, y api.Serial, a api.Answer) {
		n++
		expect(t, "a transaction", ideal.Check(y), api.OK)
		expect(t, "its rows", row.CheckList(three, y.Rows), api.OK)
		expect(t, "rows that are told", row.CheckList(three, a.Rows), api.OK)
		for _, last := range []api.Request{commit(), abort()} {
			z, a := step(t, y, last)
			expect(t, "the last one", a.Err, api.OK)
			expect(t, "who is over", ideal.Check(z), api.OK)
		}
		if q.Kind <= api.ReqMove {
			l, _ := ideal.Do(three, y.Rows, q)
			expect(t, "rows behind Do", row.CheckList(three, l), api.OK)
		}
	})
	if n < 4000 {
		t.Fatalf("%d steps", n)
	}
}

// P15.6: what only reads changes nothing.
func TestReadingChangesNothing(t *testing.T) {
	walks(t, func(_ api.Serial, q api.Request, y api.Serial, _ api.Answer) {
		for _, q := range []api.Request{read(q.Key), scan(q.Key.Table), read(key(0, 1)), scan(2)} {
			z, _ := step(t, y, q)
			l, _ := do(t, three, y.Rows, q)
			if !alike(y, z) || !slices.Equal(l, y.Rows) {
				t.Fatalf("%v has changed %v", q, y)
			}
		}
	})
}

// both is the rows behind two requests, one behind the other, and whether both were answered OK.
func both(t *testing.T, l []api.Row, p, q api.Request) ([]api.Row, bool) {
	t.Helper()
	l, a := do(t, three, l, p)
	l, b := do(t, three, l, q)
	return l, a.Err == api.OK && b.Err == api.OK
}

// P15.6: two Adds, if both are OK whichever comes first, come to the same rows.
func TestTwoAddsGoEitherWayRound(t *testing.T) {
	fit, differ := 0, 0
	d := dice(11)
	walks(t, func(_ api.Serial, _ api.Request, y api.Serial, _ api.Answer) {
		p, q := add(someKey(&d, 5), someVal(&d)), add(someKey(&d, 5), someVal(&d))
		if d.throw(2) == 0 {
			q.Key = p.Key
		}
		one, fits := both(t, y.Rows, p, q)
		other, otherFits := both(t, y.Rows, q, p)
		if !fits || !otherFits {
			return
		}
		fit++
		if p.Key == q.Key && p.Val != q.Val {
			differ++
		}
		if !slices.Equal(one, other) {
			t.Fatalf("%v and %v come to %v, and the other way round to %v", p, q, one, other)
		}
	})
	if fit < 100 || differ < 20 {
		t.Fatalf("%d pairs of Adds, of one key and unlike: %d", fit, differ)
	}
}

// P15.6: a transaction that goes back leaves what there was at its savepoint, whatever it did behind it.
func TestGoingBackLeavesWhatThereWas(t *testing.T) {
	n := 0
	walks(t, func(x api.Serial, q api.Request, _ api.Serial, _ api.Answer) {
		if len(x.Marks) == api.MaxMarks || q.Kind == api.ReqBack && q.N <= len(x.Marks) {
			return // there is no room for a savepoint, or it goes further back, and that is gone
		}
		marked, told := step(t, x, mark())
		expect(t, "Mark", told.Err, api.OK)
		z, _ := step(t, marked, q)
		z, _ = step(t, z, remove(key(0, 1)))
		z, _ = step(t, z, insert(key(2, 77), 1, ""))
		z, back := step(t, z, back(told.N))
		expect(t, "Back", back.Err, api.OK)
		if !alike(z, marked) || !slices.Equal(z.Rows, x.Rows) {
			t.Fatalf("%v, behind %v and back: %v", marked, q, z)
		}
		n++
	})
	if n < 300 {
		t.Fatalf("it went back %d times", n)
	}
}

// P15.6: one that is aborted leaves what there was when it began, however it went back before.
func TestAbortingLeavesWhatThereWas(t *testing.T) {
	n := 0
	walks(t, func(x api.Serial, _ api.Request, y api.Serial, _ api.Answer) {
		z, a := step(t, y, abort())
		expect(t, "Abort", a.Err, api.OK)
		if !slices.Equal(z.Rows, x.Begun) || !slices.Equal(z.Begun, x.Begun) || !z.Over {
			t.Fatalf("%v, aborted: %v", y, z)
		}
		if !slices.Equal(y.Rows, x.Begun) {
			n++
		}
	})
	if n < 1000 {
		t.Fatalf("%d of them had changed something", n)
	}
}

// total is the sum of both keys' values.
func total(l []api.Row, a, b api.Key) *big.Int {
	m := tableOf(l)
	return new(big.Int).Add(m[a].val, m[b].val)
}

// P15.6: Move keeps the sum of both, and touches no other row, and no note.
func TestMoveKeepsTheSum(t *testing.T) {
	n := 0
	d := dice(5)
	walks(t, func(_ api.Serial, _ api.Request, y api.Serial, _ api.Answer) {
		if len(y.Rows) < 2 {
			return
		}
		i, j := d.throw(len(y.Rows)), d.throw(len(y.Rows)-1)
		if j >= i {
			j++
		}
		q := move(y.Rows[i].Key, y.Rows[j].Key, int64(d.throw(5)))
		l, a := do(t, three, y.Rows, q)
		if a.Err != api.OK {
			return
		}
		n++
		if total(l, q.Key, q.To).Cmp(total(y.Rows, q.Key, q.To)) != 0 {
			t.Fatalf("%v of %v: %v", q, y.Rows, l)
		}
		for k, r := range y.Rows {
			if l[k].Key != r.Key || l[k].Note != r.Note || k != i && k != j && l[k].Val != r.Val {
				t.Fatalf("%v of %v has touched %v", q, y.Rows, r)
			}
		}
	})
	if n < 500 {
		t.Fatalf("%d Moves", n)
	}
}
