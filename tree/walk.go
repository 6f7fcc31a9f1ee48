package tree

import (
	"cmp"
	"iter"
	"slices"

	"bursary/api"
	"bursary/page"
)

// walk is a forest that may be, gone through or changed, and the groups by which it was changed.
type walk struct {
	api.Forest
	groups []api.Group
}

// over is a walk over a forest, with a list of pages of its own: what is changed there is not changed in what was handed in.
func over(f api.Forest) *walk {
	return &walk{Forest: api.Forest{Pages: slices.Clone(f.Pages)}}
}

// leaves tells the leaves of the tree, in order.
func (w *walk) leaves() iter.Seq[api.Content] {
	return func(yield func(leaf api.Content) bool) {
		var down func(num int) bool
		down = func(num int) bool {
			c := w.Pages[num]
			if c.Kind == api.KindLeaf {
				return yield(c)
			}
			for _, k := range c.Kids {
				if !down(k.Page) {
					return false
				}
			}
			return true
		}
		down(root)
	}
}

// kidFor is the place of an inner page's kid for a key, and that kid's page. There is no error to tell: the forest may be.
func (w *walk) kidFor(num int, k api.Key) (int, int) {
	at, _ := page.Kid(w.Pages[num], k)
	return at, w.Pages[num].Kids[at].Page
}

// way is the pages from the root to the leaf for a key.
func (w *walk) way(k api.Key) []int {
	var out []int
	var down func(num int)
	down = func(num int) {
		out = append(out, num)
		if w.Pages[num].Kind == api.KindInner {
			_, kid := w.kidFor(num, k)
			down(kid)
		}
	}
	down(root)
	return out
}

// leafFor is the page of the leaf for a key.
func (w *walk) leafFor(k api.Key) int {
	all := w.way(k)
	return all[len(all)-1]
}

// unused is the pages that are free, rising.
func (w *walk) unused() []int {
	var out []int
	for num, c := range w.Pages {
		if c.Kind == api.KindFree {
			out = append(out, num)
		}
	}
	return out
}

// lay puts what these sheets say in the place of what there is; false, if there is no such page.
func (w *walk) lay(sheets ...api.Sheet) bool {
	for _, s := range sheets {
		if s.Page < 0 || s.Page >= len(w.Pages) {
			return false
		}
		w.Pages[s.Page] = s.Content
	}
	return true
}

// change lays these sheets as one group more.
func (w *walk) change(sheets ...api.Sheet) {
	slices.SortFunc(sheets, func(a, b api.Sheet) int { return cmp.Compare(a.Page, b.Page) })
	w.lay(sheets...)
	w.groups = append(w.groups, api.Group{Sheets: sheets})
}

// copied is a content with lists of its own.
func copied(c api.Content) api.Content {
	return api.Content{Kind: c.Kind, Rows: slices.Clone(c.Rows), Kids: slices.Clone(c.Kids)}
}
