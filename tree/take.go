package tree

import (
	"bursary/api"
	"bursary/page"
)

// take goes down to the leaf of a key that is there. Whatever is small on the way is fed ahead of going down to it, so that it may lose what is joined below.
func (w *walk) take(k api.Key) api.Errno {
	var down func(num int) api.Errno
	down = func(num int) api.Errno {
		if w.Pages[num].Kind == api.KindLeaf {
			return w.takeRow(num, k)
		}
		at, kid := w.kidFor(num, k)
		if !page.Small(w.Pages[kid]) {
			return down(kid)
		}
		next, e := w.feed(num, at, k)
		if e != api.OK {
			return e
		}
		return down(next)
	}
	return down(root)
}

// takeRow changes a leaf that has the key's row.
func (w *walk) takeRow(num int, k api.Key) api.Errno {
	leaf, _, e := page.Take(w.Pages[num], k)
	if e != api.OK {
		return e
	}
	w.change(api.Sheet{Page: num, Content: leaf})
	return api.OK
}

// feed joins the small kid at a place with its neighbour, or levels both; and is the page from which on the key is looked for then.
func (w *walk) feed(num, at int, k api.Key) (int, api.Errno) {
	kids := w.Pages[num].Kids
	if at+1 == len(kids) {
		at-- // there is no neighbour behind the last one
	}
	a, b := w.Pages[kids[at].Page], w.Pages[kids[at+1].Page]
	e := api.OK
	switch {
	case page.Size(a)+page.Size(b) > api.MaxLeaf:
		e = w.level(num, at)
	case num == root && len(kids) == 2:
		return root, w.joinInRoot()
	default:
		e = w.join(num, at)
	}
	if e != api.OK {
		return 0, e
	}
	_, kid := w.kidFor(num, k)
	return kid, api.OK
}

// level lays the kid at a place and the one behind it anew, levelled.
func (w *walk) level(num, at int) api.Errno {
	a, b := w.pair(num, at)
	lower, upper, step, e := page.Level(w.Pages[a.Page], w.Pages[b.Page], b.Least)
	if e != api.OK {
		return e
	}
	above, e := page.Step(w.Pages[num], at+1, step)
	if e != api.OK {
		return e
	}
	w.change(
		api.Sheet{Page: num, Content: above},
		api.Sheet{Page: a.Page, Content: lower},
		api.Sheet{Page: b.Page, Content: upper})
	return api.OK
}

// join lays the kid at a place and the one behind it as one.
func (w *walk) join(num, at int) api.Errno {
	a, b := w.pair(num, at)
	both, e := page.Join(w.Pages[a.Page], w.Pages[b.Page], b.Least)
	if e != api.OK {
		return e
	}
	above, e := page.Disown(w.Pages[num], at+1)
	if e != api.OK {
		return e
	}
	w.change(
		api.Sheet{Page: num, Content: above},
		api.Sheet{Page: a.Page, Content: both},
		freed(b.Page))
	return api.OK
}

// joinInRoot lays the root's only two kids as one in the place of the root.
func (w *walk) joinInRoot() api.Errno {
	a, b := w.pair(root, 0)
	both, e := page.Join(w.Pages[a.Page], w.Pages[b.Page], b.Least)
	if e != api.OK {
		return e
	}
	w.change(
		api.Sheet{Page: root, Content: both},
		freed(a.Page),
		freed(b.Page))
	return api.OK
}

// pair is the kid at a place, and the one behind it.
func (w *walk) pair(num, at int) (api.Kid, api.Kid) {
	kids := w.Pages[num].Kids
	return kids[at], kids[at+1]
}

// freed is a page that is free from now on.
func freed(num int) api.Sheet {
	return api.Sheet{Page: num, Content: api.Content{Kind: api.KindFree}}
}
