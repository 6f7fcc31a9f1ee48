package page

import (
	"slices"

	"bursary/api"
	"bursary/row"
)

// size is how many rows, kids a page has: of both lists one is empty, if it may be.
func size(c api.Content) int {
	return len(c.Rows) + len(c.Kids)
}

// room is how many rows, kids a page of that Kind may have.
func room(c api.Content) int {
	if c.Kind == api.KindLeaf {
		return api.MaxLeaf
	}
	return api.MaxKids
}

// rowKey is a row's key.
func rowKey(r api.Row) api.Key {
	return r.Key
}

// kidKey is the least key that a kid may have.
func kidKey(k api.Kid) api.Key {
	return k.Least
}

// leafOf is a leaf of these rows.
func leafOf(rows []api.Row) api.Content {
	return api.Content{Kind: api.KindLeaf, Rows: rows}
}

// innerOf is an inner page of these kids.
func innerOf(kids []api.Kid) api.Content {
	return api.Content{Kind: api.KindInner, Kids: kids}
}

// rowAt is where the row of that key stands in a leaf, or would stand, and whether it is there.
func rowAt(leaf api.Content, k api.Key) (int, bool) {
	i := front(leaf.Rows, func(r api.Row) bool { return row.Compare(r.Key, k) < 0 })
	return i, i < len(leaf.Rows) && leaf.Rows[i].Key == k
}

// kidFor is the place of the kid for a key. The first one takes what is below all keys, too.
func kidFor(inner api.Content, k api.Key) int {
	n := front(inner.Kids, func(kid api.Kid) bool { return row.Compare(kid.Least, k) <= 0 })
	return max(n-1, 0)
}

// front is how many parts stand ahead of the first one that is not so.
func front[T any](all []T, so func(p T) bool) int {
	for i, p := range all {
		if !so(p) {
			return i
		}
	}
	return len(all)
}

// spliced is a copy of parts, of which those from one place up to another have given way to others.
func spliced[T any](all []T, from, to int, others ...T) []T {
	return slices.Replace(slices.Clone(all), from, to, others...)
}

// halves is a copy of the parts up to a place, and one of the others.
func halves[T any](all []T, at int) ([]T, []T) {
	return slices.Clone(all[:at]), slices.Clone(all[at:])
}

// cut is a page's rows, kids up to a place, the others, and the least key of these, which a kid gives away to the step.
func cut(c api.Content, at int) (api.Content, api.Content, api.Key) {
	if c.Kind == api.KindLeaf {
		a, b := halves(c.Rows, at)
		return leafOf(a), leafOf(b), b[0].Key
	}
	a, b := halves(c.Kids, at)
	step := b[0].Least
	b[0].Least = api.Key{}
	return innerOf(a), innerOf(b), step
}

// joined is the rows, kids of two pages of one Kind, as many as they are. Leaves need no step: rows have keys of their own.
func joined(a, b api.Content, step api.Key) api.Content {
	if a.Kind == api.KindLeaf {
		return leafOf(slices.Concat(a.Rows, b.Rows))
	}
	all := slices.Concat(a.Kids, b.Kids)
	all[len(a.Kids)].Least = step
	return innerOf(all)
}
