package codec

import (
	"bursary/api"
	"bursary/octet"
)

// maxRow is how many bytes a row has at most.
const maxRow = 1 + 2 + 8 + 1 + api.MaxNote

// reader reads rows and contents. Where the bytes end too early it gives noughts, which pass as short and good, and says so by Err.
type reader struct {
	*octet.Reader
}

// take is what one reads from the front of b, and how many bytes that are. No more than most are looked at, lest it cost as much as b is long.
func take[T any](b []byte, most int, one func(r reader) (T, api.Errno)) (T, int, api.Errno) {
	var none T
	r := reader{octet.Read(b[:min(len(b), most)])}
	whole := r.Left()
	x, e := one(r)
	if e != api.OK {
		return none, 0, e
	}
	return x, whole - r.Left(), api.OK
}

// list is a number that is most at most, and as many parts behind it.
func list[T any](r reader, most int, one func() (T, api.Errno)) ([]T, api.Errno) {
	n := int(r.U8())
	if n > most {
		return nil, api.ErrCode
	}
	var out []T
	for range n {
		x, e := one()
		if e != api.OK {
			return nil, e
		}
		out = append(out, x)
	}
	return out, r.Err()
}

// key is the next key, of whatever table.
func (r reader) key() api.Key {
	return api.Key{Table: int(r.U8()), Id: r.U16()}
}

// row is the next row. What may not be is told as soon as it is read, ahead of bytes that are lacking behind it.
func (r reader) row() (api.Row, api.Errno) {
	key := r.key()
	if !tabled(key) {
		return api.Row{}, api.ErrCode
	}
	val := int64(r.U64())
	size := r.U8()
	if size > api.MaxNote {
		return api.Row{}, api.ErrCode
	}
	note := string(r.Raw(int(size)))
	if e := r.Err(); e != api.OK {
		return api.Row{}, e
	}
	return api.Row{Key: key, Val: val, Note: note}, api.OK
}

// kid is the next kid; whether it may be is seen among the others only.
func (r reader) kid() (api.Kid, api.Errno) {
	k := api.Kid{Least: r.key(), Page: int(r.U8())}
	return k, r.Err()
}

// content is the next content.
func (r reader) content() (api.Content, api.Errno) {
	kind := r.U8()
	if e := r.Err(); e != api.OK {
		return api.Content{}, e
	}
	rest, there := r.kinds()[int(kind)]
	if !there {
		return api.Content{}, api.ErrCode
	}
	c, e := rest()
	if e != api.OK {
		return api.Content{}, e
	}
	if Check(c) != api.OK {
		return api.Content{}, api.ErrCode
	}
	return c, api.OK
}

// kinds is what reads the rest of a content of each Kind.
func (r reader) kinds() map[int]func() (api.Content, api.Errno) {
	return map[int]func() (api.Content, api.Errno){
		api.KindFree:  r.free,
		api.KindLeaf:  r.leaf,
		api.KindInner: r.inner,
	}
}

// free is the rest of a free content: nothing.
func (r reader) free() (api.Content, api.Errno) {
	return api.Content{Kind: api.KindFree}, api.OK
}

// leaf is the rest of a leaf.
func (r reader) leaf() (api.Content, api.Errno) {
	rows, e := list(r, api.MaxLeaf, r.row)
	return api.Content{Kind: api.KindLeaf, Rows: rows}, e
}

// inner is the rest of an inner content.
func (r reader) inner() (api.Content, api.Errno) {
	kids, e := list(r, api.MaxKids, r.kid)
	return api.Content{Kind: api.KindInner, Kids: kids}, e
}
