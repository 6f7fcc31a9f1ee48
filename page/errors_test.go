package page_test

import (
	"maps"
	"math"
	"slices"
	"testing"

	"bursary/api"
	"bursary/page"
)

// someInts are places, and numbers of pages, of all kinds.
var someInts = []int{math.MinInt, -1, 0, 1, 2, 3, 4, 63, 64, 256, 1 << 32, math.MaxInt}

// P11.2, P11.3, P11.4: of what may not be each call says ErrContent, ahead of all else, with arguments that would do and with such as would not.
func TestWhatMayNotBe(t *testing.T) {
	for name, c := range badPages() {
		for _, k := range []api.Key{key(0, 0), key(0, 1), key(1, 5), key(3, 0), key(-1, 0)} {
			refused(t, name+": Get", get(t, c, k), api.ErrContent)
			refused(t, name+": Take", take(t, c, k), api.ErrContent)
			refused(t, name+": Put", put(t, c, api.Row{Key: k}), api.ErrContent)
			refused(t, name+": Put of a long note", put(t, c, api.Row{Key: k, Note: "nine byte"}), api.ErrContent)
			refused(t, name+": Kid", kid(t, c, k), api.ErrContent)
			for _, at := range someInts {
				refused(t, name+": Adopt", adopt(t, c, at, 9, k), api.ErrContent)
				refused(t, name+": Adopt of no page", adopt(t, c, at, 0, k), api.ErrContent)
				refused(t, name+": Disown", disown(t, c, at), api.ErrContent)
				refused(t, name+": Step", step(t, c, at, k), api.ErrContent)
			}
		}
		refused(t, name+": Split", split(t, c), api.ErrContent)
	}
}

// P11.4: so say Join and Level, whichever of both may not be, of unlike Kinds and of too many together, too.
func TestPairsThatMayNotBe(t *testing.T) {
	good := []api.Content{free, leaf(), ids(7), ids(7, 8, 9, 10), kids(20, 40), kids(20, 40, 41, 42)}
	for name, c := range badPages() {
		for _, k := range []api.Key{key(0, 0), key(0, 7), key(3, 0)} {
			for _, other := range append(good, c, ids(4, 3)) {
				refused(t, name+": Join", join(t, c, other, k), api.ErrContent)
				refused(t, name+": Join behind", join(t, other, c, k), api.ErrContent)
				refused(t, name+": Level", level(t, c, other, k), api.ErrContent)
				refused(t, name+": Level behind", level(t, other, c, k), api.ErrContent)
			}
		}
	}
}

// P11.2, P11.3: each error goes ahead of those behind it, where several apply.
func TestErrorsInOrder(t *testing.T) {
	bad, full, fullKids := ids(4, 3), ids(1, 2, 3, 4), kids(3, 5, 7, 9)
	refused(t, "Put: ErrContent", put(t, bad, at(3, 0, 0, "nine byte")), api.ErrContent)
	refused(t, "Put: ErrLeaf", put(t, fullKids, at(3, 0, 0, "nine byte")), api.ErrLeaf)
	refused(t, "Put: ErrRow", put(t, full, at(3, 0, 0, "nine byte")), api.ErrRow)
	refused(t, "Put: ErrFull", put(t, full, at(0, 9, 0, "")), api.ErrFull)
	refused(t, "Adopt: ErrContent", adopt(t, bad, 4, 3, key(3, 0)), api.ErrContent)
	refused(t, "Adopt: ErrInner", adopt(t, full, 4, 3, key(3, 0)), api.ErrInner)
	refused(t, "Adopt: ErrArg", adopt(t, fullKids, 4, 3, key(3, 0)), api.ErrArg)
	refused(t, "Adopt: ErrFull", adopt(t, fullKids, 3, 3, key(3, 0)), api.ErrFull)
	refused(t, "Adopt: ErrArg of what would come", adopt(t, kids(3, 5), 1, 3, key(3, 0)), api.ErrArg)
	refused(t, "Join: ErrContent", join(t, bad, free, key(0, 0)), api.ErrContent)
	refused(t, "Join: ErrArg", join(t, full, fullKids, key(0, 0)), api.ErrArg)
	refused(t, "Join: ErrFull", join(t, full, full, key(0, 0)), api.ErrFull)
	refused(t, "Join: ErrArg of what would come", join(t, ids(1, 2), ids(1, 2), key(0, 0)), api.ErrArg)
}

// R1: all calls end, and none panics, at arguments of all kinds, in all choices of them.
func TestAllArguments(t *testing.T) {
	pages := append(goodPages()[:30], kids(3, 5), kids(3, 5, 7), kids(3, 5, 7, 9), ids(1, 2, 3, 4))
	bad := badPages()
	for _, name := range slices.Sorted(maps.Keys(bad)) {
		pages = append(pages, bad[name])
	}
	keys := slices.Concat(someKeys, oddKeys)
	for i, c := range pages {
		page.Size(c)
		page.Full(c)
		page.Small(c)
		split(t, c)
		for _, k := range keys {
			get(t, c, k)
			take(t, c, k)
			kid(t, c, k)
			put(t, c, api.Row{Key: k, Note: "nine byte"[:i%10]})
			join(t, c, pages[len(pages)-1-i], k)
			level(t, c, pages[len(pages)-1-i], k)
			for _, at := range someInts {
				disown(t, c, at)
				step(t, c, at, k)
				for _, number := range someInts {
					adopt(t, c, at, number, k)
				}
			}
		}
	}
}

// R1: pages of very many rows, kids, which may not be, are seen through at once.
func TestVeryMany(t *testing.T) {
	many := leaf(make([]api.Row, 1<<20)...)
	refused(t, "Split", split(t, many), api.ErrContent)
	refused(t, "Get", get(t, many, key(0, 0)), api.ErrContent)
	refused(t, "Join", join(t, ids(1), many, key(0, 0)), api.ErrContent)
	manyKids := inner(make([]api.Kid, 1<<20)...)
	refused(t, "Kid", kid(t, manyKids, key(0, 0)), api.ErrContent)
	refused(t, "Level", level(t, kids(3, 5), manyKids, key(0, 7)), api.ErrContent)
	if page.Size(many) != 0 || page.Full(many) || page.Small(manyKids) {
		t.Fatal("what may not be has a size")
	}
}
