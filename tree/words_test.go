package tree_test

import (
	"slices"

	"bursary/api"
	"bursary/codec"
	"bursary/row"
)

// What the chapter's words say, told once more and by hand: with lists of rows, kids that are cut and laid one behind the other here.

// hop is a page that is gone through on the way down, and the place of the kid.
type hop struct {
	page, place int
}

// size is how many rows, kids a content has.
func size(c api.Content) int {
	return len(c.Rows) + len(c.Kids)
}

// within says whether a key is not below the Least of the kid of each hop, and below the next one's: all the way up, one by one.
func within(f api.Forest, way []hop, k api.Key) bool {
	for _, h := range way {
		kids := f.Pages[h.page].Kids
		if row.Compare(k, kids[h.place].Least) < 0 || h.place+1 < len(kids) && row.Compare(k, kids[h.place+1].Least) >= 0 {
			return false
		}
	}
	return true
}

// waysByWords is by which way each page is reached, breadth first; false, if one is reached twice.
func waysByWords(f api.Forest) (map[int][]hop, bool) {
	ways := map[int][]hop{0: nil}
	for queue := []int{0}; len(queue) > 0; queue = queue[1:] {
		num := queue[0]
		for i, k := range f.Pages[num].Kids {
			if _, again := ways[k.Page]; again {
				return nil, false
			}
			ways[k.Page] = append(slices.Clone(ways[num]), hop{num, i})
			queue = append(queue, k.Page)
		}
	}
	return ways, true
}

// mayBeByWords says whether a forest may be.
func mayBeByWords(f api.Forest) bool {
	if len(f.Pages) != 64 {
		return false
	}
	for _, c := range f.Pages {
		if codec.Check(c) != api.OK {
			return false
		}
	}
	ways, once := waysByWords(f)
	if !once || f.Pages[0].Kind == api.KindFree {
		return false
	}
	far := map[int]int{}
	for num, c := range f.Pages {
		way, reached := ways[num]
		if !reached && c.Kind != api.KindFree || reached && num != 0 && size(c) < 2 {
			return false
		}
		if reached && c.Kind == api.KindLeaf {
			far[len(way)]++
		}
		for _, r := range c.Rows {
			if !within(f, way, r.Key) {
				return false
			}
		}
		for i, k := range c.Kids {
			if i > 0 && !within(f, way, k.Least) {
				return false
			}
		}
	}
	return len(far) == 1
}

// rowsByWords is all rows of a forest that may be, put in order by their keys.
func rowsByWords(f api.Forest) []api.Row {
	var out []api.Row
	for _, c := range f.Pages {
		out = append(out, c.Rows...)
	}
	slices.SortFunc(out, func(a, b api.Row) int { return row.Compare(a.Key, b.Key) })
	return out
}

// hand is a forest that is changed by hand, group by group.
type hand struct {
	pages  []api.Content
	groups []api.Group
}

// handOver is a hand over a copy of a forest.
func handOver(f api.Forest) *hand {
	var h hand
	for _, c := range f.Pages {
		h.pages = append(h.pages, clonedPage(c))
	}
	return &h
}

// clonedPage is a content that shares no memory with c.
func clonedPage(c api.Content) api.Content {
	return api.Content{Kind: c.Kind, Rows: slices.Clone(c.Rows), Kids: slices.Clone(c.Kids)}
}

// change is a group more.
func (h *hand) change(p pages) {
	h.groups = append(h.groups, group(p))
	for num, c := range p {
		h.pages[num] = clonedPage(c)
	}
}

// kidByWords is the place of the last kid whose Least is not above the key.
func (h *hand) kidByWords(num int, k api.Key) int {
	at := 0
	for i, kid := range h.pages[num].Kids {
		if row.Compare(kid.Least, k) <= 0 {
			at = i
		}
	}
	return at
}

// unused is the free pages' numbers.
func (h *hand) unused() []int {
	var out []int
	for num, c := range h.pages {
		if c.Kind == api.KindFree {
			out = append(out, num)
		}
	}
	return out
}

// splitByWords is the two parts of a full page, and the step.
func splitByWords(c api.Content) (api.Content, api.Content, api.Key) {
	if c.Kind == api.KindLeaf {
		return leaf(c.Rows[0], c.Rows[1]), leaf(c.Rows[2], c.Rows[3]), c.Rows[2].Key
	}
	return inner(c.Kids[0], c.Kids[1]), inner(api.Kid{Page: c.Kids[2].Page}, c.Kids[3]), c.Kids[2].Least
}

// joinByWords is the rows, kids of both, b's first kid with the step as its Least.
func joinByWords(a, b api.Content, step api.Key) api.Content {
	out := clonedPage(a)
	out.Rows = append(out.Rows, b.Rows...)
	for i, k := range b.Kids {
		if i == 0 {
			k.Least = step
		}
		out.Kids = append(out.Kids, k)
	}
	return out
}

// levelByWords is both levelled, and the new step: all in a row, cut one further on than it was.
func levelByWords(a, b api.Content, step api.Key) (api.Content, api.Content, api.Key) {
	all, cut := joinByWords(a, b, step), size(a)-1
	if size(a) < size(b) {
		cut = size(a) + 1
	}
	if a.Kind == api.KindLeaf {
		return leaf(all.Rows[:cut]...), leaf(all.Rows[cut:]...), all.Rows[cut].Key
	}
	step = all.Kids[cut].Least
	all.Kids[cut].Least = key(0, 0)
	return inner(all.Kids[:cut]...), inner(all.Kids[cut:]...), step
}

// putByWords is what Put answers of a forest that may be and a row that may be laid.
func putByWords(f api.Forest, r api.Row) answer {
	h := handOver(f)
	for num, c := range h.pages {
		for i, old := range c.Rows {
			if old.Key == r.Key {
				c.Rows[i] = r
				h.change(pages{num: c})
				return answer{groups: h.groups}
			}
		}
	}
	for num := 0; ; {
		c, unused := h.pages[num], h.unused()
		if num == 0 && size(c) == 4 {
			if len(unused) < 2 {
				return answer{e: api.ErrFull}
			}
			a, b, step := splitByWords(c)
			h.change(pages{0: inner(to(0, unused[0]), api.Kid{Least: step, Page: unused[1]}), unused[0]: a, unused[1]: b})
			continue
		}
		if c.Kind == api.KindLeaf {
			c.Rows = append(c.Rows, r)
			slices.SortFunc(c.Rows, func(a, b api.Row) int { return row.Compare(a.Key, b.Key) })
			h.change(pages{num: c})
			return answer{groups: h.groups}
		}
		at := h.kidByWords(num, r.Key)
		if kid := c.Kids[at].Page; size(h.pages[kid]) == 4 {
			if len(unused) < 1 {
				return answer{e: api.ErrFull}
			}
			a, b, step := splitByWords(h.pages[kid])
			c.Kids = slices.Insert(c.Kids, at+1, api.Kid{Least: step, Page: unused[0]})
			h.change(pages{num: c, kid: a, unused[0]: b})
		}
		num = h.pages[num].Kids[h.kidByWords(num, r.Key)].Page
	}
}

// takeByWords is what Take answers of a forest that may be.
func takeByWords(f api.Forest, k api.Key) answer {
	h := handOver(f)
	was := slices.IndexFunc(rowsByWords(f), func(r api.Row) bool { return r.Key == k })
	if was < 0 {
		return answer{e: api.ErrNone}
	}
	taken := rowsByWords(f)[was]
	for num := 0; ; {
		c := h.pages[num]
		if c.Kind == api.KindLeaf {
			c.Rows = slices.DeleteFunc(c.Rows, func(r api.Row) bool { return r.Key == k })
			h.change(pages{num: c})
			return answer{groups: h.groups, row: taken}
		}
		at := h.kidByWords(num, k)
		if size(h.pages[c.Kids[at].Page]) <= 2 && h.feedByWords(num, at) {
			num = 0
			continue
		}
		num = h.pages[num].Kids[h.kidByWords(num, k)].Page
	}
}

// feedByWords joins, levels a small kid with its neighbour, and says whether the root holds both now.
func (h *hand) feedByWords(num, at int) bool {
	c := h.pages[num]
	if at == len(c.Kids)-1 {
		at--
	}
	a, b := c.Kids[at], c.Kids[at+1]
	pa, pb := h.pages[a.Page], h.pages[b.Page]
	if size(pa)+size(pb) > 4 {
		lower, upper, step := levelByWords(pa, pb, b.Least)
		c.Kids[at+1].Least = step
		h.change(pages{num: c, a.Page: lower, b.Page: upper})
		return false
	}
	both := joinByWords(pa, pb, b.Least)
	if num == 0 && len(c.Kids) == 2 {
		h.change(pages{0: both, a.Page: free, b.Page: free})
		return true
	}
	c.Kids = slices.Delete(c.Kids, at+1, at+2)
	h.change(pages{num: c, a.Page: both, b.Page: free})
	return false
}
