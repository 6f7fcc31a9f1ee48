package tree

import (
	"bursary/api"
	"bursary/page"
)

// put changes the forest till the row, which may be laid, is in it.
func (w *walk) put(r api.Row) api.Errno {
	leaf := w.leafFor(r.Key)
	if _, e := page.Get(w.Pages[leaf], r.Key); e == api.OK {
		return w.putRow(leaf, r) // in the place of another one: no room is needed
	}
	return w.putMore(r)
}

// putRow changes a leaf that has room for the row.
func (w *walk) putRow(num int, r api.Row) api.Errno {
	leaf, e := page.Put(w.Pages[num], r)
	if e != api.OK {
		return e
	}
	w.change(api.Sheet{Page: num, Content: leaf})
	return api.OK
}

// putMore goes down to the leaf for a row whose key is not there. Whatever is full on the way is split ahead of going down to it, so that it may adopt what is split below.
func (w *walk) putMore(r api.Row) api.Errno {
	var down func(num int) api.Errno
	down = func(num int) api.Errno {
		c := w.Pages[num]
		if num == root && page.Full(c) {
			if e := w.splitRoot(); e != api.OK {
				return e
			}
			return down(root)
		}
		if c.Kind == api.KindLeaf {
			return w.putRow(num, r)
		}
		at, kid := w.kidFor(num, r.Key)
		if page.Full(w.Pages[kid]) {
			if e := w.splitKid(num, at); e != api.OK {
				return e
			}
			_, kid = w.kidFor(num, r.Key) // the key may be of the upper part now
		}
		return down(kid)
	}
	return down(root)
}

// splitRoot lays the root's two parts below it.
func (w *walk) splitRoot() api.Errno {
	unused := w.unused()
	if len(unused) < 2 {
		return api.ErrFull
	}
	a, b, step, e := page.Split(w.Pages[root])
	if e != api.OK {
		return e
	}
	lower, upper := unused[0], unused[1]
	kids := []api.Kid{{Page: lower}, {Least: step, Page: upper}}
	w.change(
		api.Sheet{Page: root, Content: api.Content{Kind: api.KindInner, Kids: kids}},
		api.Sheet{Page: lower, Content: a},
		api.Sheet{Page: upper, Content: b})
	return api.OK
}

// splitKid lays the upper part of the kid at a place beside it.
func (w *walk) splitKid(num, at int) api.Errno {
	unused := w.unused()
	if len(unused) < 1 {
		return api.ErrFull
	}
	lower, upper := w.Pages[num].Kids[at].Page, unused[0]
	a, b, step, e := page.Split(w.Pages[lower])
	if e != api.OK {
		return e
	}
	above, e := page.Adopt(w.Pages[num], at, upper, step)
	if e != api.OK {
		return e
	}
	w.change(
		api.Sheet{Page: num, Content: above},
		api.Sheet{Page: lower, Content: a},
		api.Sheet{Page: upper, Content: b})
	return api.OK
}
