package ideal

import (
	"bursary/api"
	"bursary/row"
)

// isRequest says whether a request may be of a schema that may be.
func isRequest(s api.Schema, q api.Request) bool {
	if others(q) != (api.Request{}) {
		return false
	}
	switch q.Kind {
	case api.ReqRead, api.ReqScan, api.ReqDelete, api.ReqSet, api.ReqAdd:
		return isKey(s, q.Key)
	case api.ReqInsert, api.ReqNote:
		return isKey(s, q.Key) && len(q.Note) <= api.MaxNote
	case api.ReqMove:
		return isKey(s, q.Key) && isKey(s, q.To) && q.To != q.Key && q.Val >= 0
	case api.ReqBack:
		return q.N >= 1
	case api.ReqMark, api.ReqCommit, api.ReqAbort:
		return true
	}
	return false
}

// others is a request without its Kind, and without what counts of that: what is left must be zero.
func others(q api.Request) api.Request {
	switch q.Kind {
	case api.ReqRead, api.ReqDelete:
		q.Key = api.Key{}
	case api.ReqScan:
		q.Key.Table = 0
	case api.ReqInsert:
		q.Key, q.Val, q.Note = api.Key{}, 0, ""
	case api.ReqNote:
		q.Key, q.Note = api.Key{}, ""
	case api.ReqSet, api.ReqAdd:
		q.Key, q.Val = api.Key{}, 0
	case api.ReqMove:
		q.Key, q.To, q.Val = api.Key{}, api.Key{}, 0
	case api.ReqBack:
		q.N = 0
	}
	q.Kind = 0
	return q
}

// isKey says whether a key may be of the schema.
func isKey(s api.Schema, k api.Key) bool {
	return row.CheckKey(s, k) == api.OK
}

// isOfRows says whether a request that may be asks for rows alone, so that it can be done without a transaction.
func isOfRows(q api.Request) bool {
	return q.Kind <= api.ReqMove
}

// isSerial says whether a transaction that runs alone may be; how many savepoints it has is asked first, for only so many are looked at.
func isSerial(x api.Serial) bool {
	if len(x.Marks) > api.MaxMarks || x.Over && len(x.Marks) > 0 {
		return false
	}
	for _, l := range append([][]api.Row{x.Rows, x.Begun}, x.Marks...) {
		if row.CheckList(x.Schema, l) != api.OK {
			return false
		}
	}
	return true
}
