package tree

import (
	"cmp"
	"slices"

	"bursary/api"
	"bursary/codec"
	"bursary/page"
	"bursary/row"
)

// root is the page from which on the tree is gone down.
const root = 0

// part is the keys that may stand below a page: from one on, and below another one.
type part struct {
	from, below api.Key
}

// whole is the part of all keys that rows may have, which is the root's.
func whole() part {
	return part{below: api.Key{Table: api.MaxTables}}
}

// of is what the kid at a place has of a page's part. The first one begins where the page does: its Least is zero, and says nothing.
func (p part) of(kids []api.Kid, at int) part {
	if at > 0 {
		p.from = kids[at].Least
	}
	if at+1 < len(kids) {
		p.below = kids[at+1].Least
	}
	return p
}

// has says whether a key is of the part.
func (p part) has(k api.Key) bool {
	return row.Compare(p.from, k) <= 0 && row.Compare(k, p.below) < 0
}

// holds says whether all keys of a page's rows, and all Leasts but the first kid's, are of the part.
func (p part) holds(c api.Content) bool {
	for _, r := range c.Rows {
		if !p.has(r.Key) {
			return false
		}
	}
	for i, k := range c.Kids {
		if i > 0 && !p.has(k.Least) {
			return false
		}
	}
	return true
}

// mayBe says whether a forest may be.
func mayBe(f api.Forest) bool {
	wrong := func(c api.Content) bool { return codec.Check(c) != api.OK }
	if len(f.Pages) != api.MaxPages || slices.ContainsFunc(f.Pages, wrong) {
		return false
	}
	depths, sound := survey(f)
	if !sound {
		return false
	}
	for num, c := range f.Pages {
		if depths[num] == 0 && c.Kind != api.KindFree {
			return false
		}
	}
	return true
}

// survey is how deep each page lies that is reached from the root, 1 for that one, and whether they are as they should be. Each page must be one that may be.
func survey(f api.Forest) (map[int]int, bool) {
	depths := map[int]int{}
	leaves := 0 // how deep the first leaf lies; all others must, too
	var down func(num, depth int, p part) bool
	down = func(num, depth int, p part) bool {
		c := f.Pages[num]
		if depths[num] > 0 || c.Kind == api.KindFree || num != root && page.Size(c) < api.Few || !p.holds(c) {
			return false
		}
		depths[num] = depth
		if c.Kind == api.KindLeaf {
			leaves = cmp.Or(leaves, depth)
			return depth == leaves
		}
		for i, k := range c.Kids {
			if !down(k.Page, depth+1, p.of(c.Kids, i)) {
				return false
			}
		}
		return true
	}
	sound := down(root, 1, whole())
	return depths, sound
}
