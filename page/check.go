package page

import (
	"slices"

	"bursary/api"
	"bursary/codec"
	"bursary/row"
)

// need is something that must be so of what would come.
type need func(c api.Content) bool

// mayBe says whether a page may be.
func mayBe(c api.Content) bool {
	return codec.Check(c) == api.OK
}

// holds says whether a page may be, and is not free.
func holds(c api.Content) bool {
	return mayBe(c) && c.Kind != api.KindFree
}

// checkLeaf asks whether a page is a leaf.
func checkLeaf(c api.Content) api.Errno {
	return checkKind(c, api.KindLeaf, api.ErrLeaf)
}

// checkInner asks whether a page is an inner one.
func checkInner(c api.Content) api.Errno {
	return checkKind(c, api.KindInner, api.ErrInner)
}

// checkKind asks whether a page may be, and then whether it is of that Kind, or which error is said of another one.
func checkKind(c api.Content, kind int, other api.Errno) api.Errno {
	if e := codec.Check(c); e != api.OK {
		return e
	}
	if c.Kind != kind {
		return other
	}
	return api.OK
}

// checkPair asks whether two pages are both leaves, or both inner ones.
func checkPair(a, b api.Content) api.Errno {
	if !mayBe(a) || !mayBe(b) {
		return api.ErrContent
	}
	if a.Kind == api.KindFree || a.Kind != b.Kind {
		return api.ErrArg
	}
	return api.OK
}

// behindFirst says whether there is a kid at a place, and it is not the first one.
func behindFirst(inner api.Content, at int) bool {
	return at >= 1 && at < len(inner.Kids)
}

// come is what would come, if it meets all these needs.
func come(c api.Content, needs ...need) (api.Content, api.Errno) {
	for _, met := range needs {
		if !met(c) {
			return api.Content{}, api.ErrArg
		}
	}
	return c, api.OK
}

// longerThan says of a page whether something is left behind its first n rows, kids.
func longerThan(n int) need {
	return func(c api.Content) bool { return size(c) > n }
}

// rises says whether keys, Leasts rise, none twice, however many there are.
func rises(c api.Content) bool {
	return ascend(c.Rows, rowKey) && ascend(c.Kids, kidKey)
}

// ascend says whether the keys of parts rise, none twice.
func ascend[T any](all []T, key func(p T) api.Key) bool {
	for i := 1; i < len(all); i++ {
		if row.Compare(key(all[i-1]), key(all[i])) >= 0 {
			return false
		}
	}
	return true
}

// apart says whether no page is there twice.
func apart(c api.Content) bool {
	for i, k := range c.Kids {
		if slices.ContainsFunc(c.Kids[:i], func(ahead api.Kid) bool { return ahead.Page == k.Page }) {
			return false
		}
	}
	return true
}
