package ideal_test

import (
	"math"
	"math/big"
	"slices"
	"testing"

	"bursary/api"
)

// counter is what a row has beside its key, its value being a number without end.
type counter struct {
	val  *big.Int
	note string
}

// table is counters by their keys.
type table map[api.Key]counter

// tableOf is these rows as a table.
func tableOf(l []api.Row) table {
	out := table{}
	for _, r := range l {
		out[r.Key] = counter{big.NewInt(r.Val), r.Note}
	}
	return out
}

// rows is the table as a list in order.
func (m table) rows() []api.Row {
	var out []api.Row
	for k, c := range m {
		out = append(out, api.Row{Key: k, Val: c.val.Int64(), Note: c.note})
	}
	slices.SortFunc(out, func(a, b api.Row) int {
		return a.Key.Table<<16 + int(a.Key.Id) - b.Key.Table<<16 - int(b.Key.Id)
	})
	return out
}

// life is a transaction told by the chapter's words: its tables now, when it began, and at its savepoints.
type life struct {
	schema     api.Schema
	now, begun table
	marks      []table
	over       bool
}

// bornOf is a life of these rows.
func bornOf(s api.Schema, l []api.Row) *life {
	return &life{schema: s, now: tableOf(l), begun: tableOf(l)}
}

// serial is the transaction that the life is.
func (l *life) serial() api.Serial {
	out := api.Serial{Schema: l.schema, Rows: l.now.rows(), Begun: l.begun.rows(), Over: l.over}
	for _, m := range l.marks {
		out.Marks = append(out.Marks, m.rows())
	}
	return out
}

// outside says whether a number is outside the bounds of a key's table.
func (l *life) outside(k api.Key, n *big.Int) bool {
	b := l.schema.Tables[k.Table]
	return n.Cmp(big.NewInt(b.Min)) < 0 || n.Cmp(big.NewInt(b.Max)) > 0
}

// sum is the value of a key's row and a number, and whether that is outside the bounds.
func (l *life) sum(k api.Key, by *big.Int) (*big.Int, bool) {
	n := new(big.Int).Add(l.now[k].val, by)
	return n, l.outside(k, n)
}

// put gives a key's row that value and that note.
func (l *life) put(k api.Key, val *big.Int, note string) api.Answer {
	l.now[k] = counter{val, note}
	return fine
}

// answer is what the next request is to be answered; it may be, and the life is not over.
func (l *life) answer(q api.Request) api.Answer {
	switch q.Kind {
	case api.ReqMark, api.ReqBack, api.ReqCommit, api.ReqAbort:
		return l.turn(q)
	case api.ReqScan:
		all := l.now.rows()
		return tells(slices.DeleteFunc(all, func(r api.Row) bool { return r.Key.Table != q.Key.Table })...)
	case api.ReqInsert:
		return l.insert(q)
	}
	own, there := l.now[q.Key]
	_, toThere := l.now[q.To]
	switch {
	case q.Kind == api.ReqSet && l.outside(q.Key, big.NewInt(q.Val)):
		return fails(api.ErrBound)
	case !there || q.Kind == api.ReqMove && !toThere:
		return fails(api.ErrNone)
	}
	switch q.Kind {
	case api.ReqRead:
		return tells(api.Row{Key: q.Key, Val: own.val.Int64(), Note: own.note})
	case api.ReqDelete:
		delete(l.now, q.Key)
		return fine
	case api.ReqNote:
		return l.put(q.Key, own.val, q.Note)
	case api.ReqSet:
		return l.put(q.Key, big.NewInt(q.Val), own.note)
	}
	return l.sums(q)
}

// insert is what an Insert is to be answered.
func (l *life) insert(q api.Request) api.Answer {
	_, there := l.now[q.Key]
	switch {
	case l.outside(q.Key, big.NewInt(q.Val)):
		return fails(api.ErrBound)
	case there:
		return fails(api.ErrThere)
	case len(l.now) == 60:
		return fails(api.ErrFull)
	}
	return l.put(q.Key, big.NewInt(q.Val), q.Note)
}

// sums is what an Add, a Move is to be answered, if the rows are there.
func (l *life) sums(q api.Request) api.Answer {
	by := big.NewInt(q.Val)
	if q.Kind == api.ReqAdd {
		n, out := l.sum(q.Key, by)
		if out {
			return fails(api.ErrBound)
		}
		return l.put(q.Key, n, l.now[q.Key].note)
	}
	less, outLess := l.sum(q.Key, new(big.Int).Neg(by))
	more, outMore := l.sum(q.To, by)
	if outLess || outMore {
		return fails(api.ErrBound)
	}
	l.put(q.Key, less, l.now[q.Key].note)
	return l.put(q.To, more, l.now[q.To].note)
}

// turn is what a request of a transaction is to be answered.
func (l *life) turn(q api.Request) api.Answer {
	switch q.Kind {
	case api.ReqMark:
		if len(l.marks) == 8 {
			return fails(api.ErrFull)
		}
		l.marks = append(l.marks, tableOf(l.now.rows()))
		return counts(len(l.marks))
	case api.ReqBack:
		if q.N > len(l.marks) {
			return fails(api.ErrNone)
		}
		l.marks = l.marks[:q.N]
		l.now = tableOf(l.marks[q.N-1].rows())
		return fine
	case api.ReqAbort:
		l.now = tableOf(l.begun.rows())
	}
	l.marks, l.over = nil, true
	return fine
}

// someKey is a key of few, so that rows are met.
func someKey(d *dice, ids int) api.Key {
	return key(d.throw(3), uint16(d.throw(ids)))
}

// someVal is a number: small, or near one of the ends of 64 bits.
func someVal(d *dice) int64 {
	near := int64(d.throw(16)) - 8
	switch d.throw(8) {
	case 0:
		return math.MaxInt64 - near&7
	case 1:
		return math.MinInt64 + near&7
	case 2:
		return near << 59
	}
	return near
}

// someRequest is a request of three that may be.
func someRequest(d *dice, ids int) api.Request {
	k, val, text := someKey(d, ids), someVal(d), long(d.throw(9))
	switch n := d.throw(100); {
	case n < 8:
		return read(k)
	case n < 14:
		return scan(k.Table)
	case n < 38:
		return insert(k, val, text)
	case n < 46:
		return remove(k)
	case n < 52:
		return note(k, text)
	case n < 60:
		return set(k, val)
	case n < 72:
		return add(k, val)
	case n < 86:
		to := someKey(d, ids)
		for to == k {
			to = someKey(d, ids)
		}
		return move(k, to, max(val, val&0x7fff))
	case n < 93:
		return mark()
	}
	return back(1 + d.throw(api.MaxMarks+1))
}

// met is how often each Kind had each answer.
type met map[int]map[api.Errno]int

// count counts one.
func (m met) count(q api.Request, a api.Answer) {
	if m[q.Kind] == nil {
		m[q.Kind] = map[api.Errno]int{}
	}
	m[q.Kind][a.Err]++
}

// answersOf are the answers that each Kind may have.
func answersOf() map[int][]api.Errno {
	return map[int][]api.Errno{
		api.ReqRead:   {api.OK, api.ErrNone},
		api.ReqScan:   {api.OK},
		api.ReqInsert: {api.OK, api.ErrBound, api.ErrThere, api.ErrFull},
		api.ReqDelete: {api.OK, api.ErrNone},
		api.ReqNote:   {api.OK, api.ErrNone},
		api.ReqSet:    {api.OK, api.ErrBound, api.ErrNone},
		api.ReqAdd:    {api.OK, api.ErrNone, api.ErrBound},
		api.ReqMove:   {api.OK, api.ErrNone, api.ErrBound},
		api.ReqMark:   {api.OK, api.ErrFull},
		api.ReqBack:   {api.OK, api.ErrNone},
		api.ReqCommit: {api.OK},
		api.ReqAbort:  {api.OK},
	}
}

// checkAll asks whether each Kind had each of its answers, and no other one.
func (m met) checkAll(t *testing.T) {
	t.Helper()
	for kind, all := range answersOf() {
		for _, e := range all {
			if m[kind][e] < 3 {
				t.Fatalf("the Kind %d was answered %d only %d times", kind, e, m[kind][e])
			}
		}
		if len(m[kind]) != len(all) {
			t.Fatalf("the Kind %d was answered %v", kind, m[kind])
		}
	}
}

// P15.3, P15.4, P15.6: long rows of requests, from few rows and from many, held against the words; the next transaction begins with what the one ahead has left.
func TestLongRows(t *testing.T) {
	seen := met{}
	for seed := range 60 {
		d := dice(seed*7919 + 1)
		ids := one(&d, 2, 4, 12, 30)
		l := one(&d, nil, few(), someRows(30), full())
		for range 4 {
			own := bornOf(three, l)
			x, e := begin(t, three, l)
			expect(t, "Begin", e, api.OK)
			for range 120 {
				q := someRequest(&d, ids)
				want := own.answer(q)
				seen.count(q, want)
				x = checkStep(t, "a long row", x, q, own.serial(), want)
				expect(t, "what comes", checkOf(t, x), api.OK)
			}
			q := one(&d, commit(), abort())
			want := own.answer(q)
			seen.count(q, want)
			x = checkStep(t, "the last of a row", x, q, own.serial(), want)
			checkStep(t, "behind the last", x, someRequest(&d, ids), x, fails(api.ErrOver))
			l = x.Rows
		}
	}
	seen.checkAll(t)
}

// P15.3, P15.4: Do comes to the same rows, and the same answer, as Step does.
func TestDoAsStepDoes(t *testing.T) {
	for seed := range 20 {
		d := dice(seed*104729 + 5)
		l := one(&d, nil, few(), someRows(50))
		x := begun(three, l...)
		for range 200 {
			q := someRequest(&d, one(&d, 3, 12))
			if q.Kind > api.ReqMove {
				continue
			}
			y, want := step(t, x, q)
			checkDo(t, "as Step", three, x.Rows, q, y.Rows, want)
			x = y
		}
	}
}
