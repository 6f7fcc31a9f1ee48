package ideal

import (
	"slices"

	"bursary/api"
	"bursary/row"
)

// work is a transaction, and the request that is done in it.
type work struct {
	x api.Serial
	q api.Request
}

// done is a transaction that may be behind a request that may be, and what that is answered. The work is on a copy, so that it can change what it has.
func done(x api.Serial, q api.Request) (api.Serial, api.Answer) {
	w := &work{x: copied(x), q: q}
	a := w.kinds()[q.Kind]()
	return w.x, a
}

// copied is a transaction that is the same, and shares no memory.
func copied(x api.Serial) api.Serial {
	x.Schema.Tables = slices.Clone(x.Schema.Tables)
	x.Rows = slices.Clone(x.Rows)
	x.Begun = slices.Clone(x.Begun)
	x.Marks = slices.Clone(x.Marks)
	for i, l := range x.Marks {
		x.Marks[i] = slices.Clone(l)
	}
	return x
}

// told is the answer that says an error, or OK, and nothing besides.
func told(e api.Errno) api.Answer {
	return api.Answer{Err: e}
}

// kinds is what does a request of each Kind.
func (w *work) kinds() map[int]func() api.Answer {
	return map[int]func() api.Answer{
		api.ReqRead:   w.read,
		api.ReqScan:   w.scan,
		api.ReqInsert: w.insert,
		api.ReqDelete: w.remove,
		api.ReqNote:   w.note,
		api.ReqSet:    w.set,
		api.ReqAdd:    w.add,
		api.ReqMove:   w.move,
		api.ReqMark:   w.mark,
		api.ReqBack:   w.back,
		api.ReqCommit: w.commit,
		api.ReqAbort:  w.abort,
	}
}

// read tells the row of the key.
func (w *work) read() api.Answer {
	i, there := row.Find(w.x.Rows, w.q.Key)
	if !there {
		return told(api.ErrNone)
	}
	return api.Answer{Rows: []api.Row{w.x.Rows[i]}}
}

// scan tells the rows of the table.
func (w *work) scan() api.Answer {
	return api.Answer{Rows: row.Of(w.x.Rows, w.q.Key.Table)}
}

// insert puts a row whose key is not there. That the key is there goes ahead of the lack of room, which a Put tells.
func (w *work) insert() api.Answer {
	r := api.Row{Key: w.q.Key, Val: w.q.Val, Note: w.q.Note}
	if e := row.CheckRow(w.x.Schema, r); e != api.OK {
		return told(e)
	}
	if w.has(r.Key) {
		return told(api.ErrThere)
	}
	return w.lay(row.Put(w.x.Schema, w.x.Rows, r))
}

// remove takes the row of the key.
func (w *work) remove() api.Answer {
	rows, _, e := row.Take(w.x.Schema, w.x.Rows, w.q.Key)
	return w.lay(rows, e)
}

// note gives the row of the key another note.
func (w *work) note() api.Answer {
	return w.lay(w.become(w.x.Rows, w.q.Key, func(r *api.Row) api.Errno {
		r.Note = w.q.Note
		return api.OK
	}))
}

// set gives the row of the key another value. Whether that is within the bounds goes ahead of whether the row is there.
func (w *work) set() api.Answer {
	if e := row.CheckRow(w.x.Schema, api.Row{Key: w.q.Key, Val: w.q.Val}); e != api.OK {
		return told(e)
	}
	return w.lay(w.become(w.x.Rows, w.q.Key, func(r *api.Row) api.Errno {
		r.Val = w.q.Val
		return api.OK
	}))
}

// add gives the row of the key the sum of its value and another one.
func (w *work) add() api.Answer {
	return w.lay(w.plus(w.x.Rows, w.q.Key, w.q.Val))
}

// move takes from the row of the one key what it adds to that of the other one. Whether both are there goes ahead of whether what they have then is within the bounds.
func (w *work) move() api.Answer {
	if !w.has(w.q.Key) || !w.has(w.q.To) {
		return told(api.ErrNone)
	}
	rows, e := w.plus(w.x.Rows, w.q.Key, -w.q.Val)
	if e == api.OK {
		rows, e = w.plus(rows, w.q.To, w.q.Val)
	}
	return w.lay(rows, e)
}

// mark puts a savepoint behind the others.
func (w *work) mark() api.Answer {
	n := len(w.x.Marks)
	if n == api.MaxMarks {
		return told(api.ErrFull)
	}
	w.x.Marks = append(w.x.Marks[:n:n], slices.Clone(w.x.Rows))
	return api.Answer{N: n + 1}
}

// back makes the rows what they were at a savepoint, which stays, while those behind it are gone.
func (w *work) back() api.Answer {
	n := w.q.N
	if n > len(w.x.Marks) {
		return told(api.ErrNone)
	}
	w.x.Rows, w.x.Marks = slices.Clone(w.x.Marks[n-1]), slices.Clone(w.x.Marks[:n])
	return told(api.OK)
}

// commit ends the transaction.
func (w *work) commit() api.Answer {
	w.x.Marks, w.x.Over = nil, true
	return told(api.OK)
}

// abort ends the transaction, and makes the rows what they were when it began.
func (w *work) abort() api.Answer {
	w.x.Rows = slices.Clone(w.x.Begun)
	return w.commit()
}

// has says whether there is a row of that key.
func (w *work) has(k api.Key) bool {
	_, there := row.Find(w.x.Rows, k)
	return there
}

// lay makes these the transaction's rows, unless there is an error; and it is the answer.
func (w *work) lay(rows []api.Row, e api.Errno) api.Answer {
	if e == api.OK {
		w.x.Rows = rows
	}
	return told(e)
}

// become is these rows, in which the one of a key has become another one of that key.
func (w *work) become(rows []api.Row, k api.Key, other func(r *api.Row) api.Errno) ([]api.Row, api.Errno) {
	i, there := row.Find(rows, k)
	if !there {
		return nil, api.ErrNone
	}
	r := rows[i]
	if e := other(&r); e != api.OK {
		return nil, e
	}
	return row.Put(w.x.Schema, rows, r)
}

// plus is these rows, in which the value of the one of a key has become the sum of it and another one.
func (w *work) plus(rows []api.Row, k api.Key, by int64) ([]api.Row, api.Errno) {
	return w.become(rows, k, func(r *api.Row) api.Errno {
		sum, fits := row.Plus(r.Val, by)
		if !fits {
			return api.ErrBound
		}
		r.Val = sum
		return api.OK
	})
}
