package row

import "bursary/api"

// need is something that a row must be: the error of one that is not so.
type need func(s api.Schema, r api.Row) api.Errno

// Check asks whether there may be such tables.
func Check(s api.Schema) api.Errno {
	if len(s.Tables) < 1 || len(s.Tables) > api.MaxTables {
		return api.ErrSchema
	}
	for _, b := range s.Tables {
		if b.Min > b.Max {
			return api.ErrSchema
		}
	}
	return api.OK
}

// CheckKey asks whether a key may be of the schema.
func CheckKey(s api.Schema, k api.Key) api.Errno {
	if e := Check(s); e != api.OK {
		return e
	}
	return mustBe(s, api.Row{Key: k}, keyed)
}

// CheckRow asks whether a row may be of the schema.
func CheckRow(s api.Schema, r api.Row) api.Errno {
	if e := Check(s); e != api.OK {
		return e
	}
	return mustBe(s, r, keyed, noted, bounded)
}

// CheckList asks whether a list of rows may be of the schema.
func CheckList(s api.Schema, l []api.Row) api.Errno {
	if e := Check(s); e != api.OK {
		return e
	}
	if len(l) > api.MaxRows {
		return api.ErrRow
	}
	for i, r := range l {
		if mustBe(s, r, keyed, noted, bounded) != api.OK {
			return api.ErrRow
		}
		if i > 0 && Compare(l[i-1].Key, r.Key) >= 0 {
			return api.ErrRow
		}
	}
	return api.OK
}

// mustBe is the error of the first of these needs that the row does not meet; those behind it are not asked, for they may lean on it.
func mustBe(s api.Schema, r api.Row, needs ...need) api.Errno {
	for _, n := range needs {
		if e := n(s, r); e != api.OK {
			return e
		}
	}
	return api.OK
}

// keyed asks whether the key's table is there.
func keyed(s api.Schema, r api.Row) api.Errno {
	if r.Key.Table < 0 || r.Key.Table >= len(s.Tables) {
		return api.ErrRow
	}
	return api.OK
}

// noted asks whether the note is short enough.
func noted(_ api.Schema, r api.Row) api.Errno {
	if len(r.Note) > api.MaxNote {
		return api.ErrLong
	}
	return api.OK
}

// bounded asks whether the value is within the bounds of the row's table, which must be there.
func bounded(s api.Schema, r api.Row) api.Errno {
	b := s.Tables[r.Key.Table]
	if r.Val < b.Min || r.Val > b.Max {
		return api.ErrBound
	}
	return api.OK
}
