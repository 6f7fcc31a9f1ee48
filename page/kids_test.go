package page_test

import (
	"math"
	"slices"
	"testing"

	"bursary/api"
	"bursary/codec"
	"bursary/row"
)

// wrongPlaces are places of no kid of n; cut to 32 bits, or to a byte, some would be one's.
func wrongPlaces(n int) []int {
	return []int{-1, -2, -n, n, n + 1, 256, 257, -255, 1 << 32, 1<<32 + 1, -1<<32 + 1, math.MaxInt - 1, math.MaxInt, math.MinInt, math.MinInt + 1}
}

// mayCome is an answer of that page, or ErrArg, if it may not be.
func mayCome(c api.Content) answer {
	if codec.Check(c) != api.OK {
		return answer{e: api.ErrArg}
	}
	return answer{a: c}
}

// P11.3: for a key below each Least, at it, and above it.
func TestKid(t *testing.T) {
	c := inner(on(0, 0, 9), on(0, 5, 3), on(1, 5, 4), on(2, 0, 1))
	for _, q := range []struct {
		k    api.Key
		want int
	}{
		{key(0, 0), 0}, {key(0, 1), 0}, {key(0, 4), 0},
		{key(0, 5), 1}, {key(0, 6), 1}, {key(0, 65535), 1}, {key(1, 0), 1}, {key(1, 4), 1},
		{key(1, 5), 2}, {key(1, 6), 2}, {key(1, 65535), 2},
		{key(2, 0), 3}, {key(2, 1), 3}, {key(2, 65535), 3},
	} {
		check(t, "Kid", kid(t, c, q.k), answer{n: q.want})
	}
	check(t, "of two", kid(t, kids(3, 1), key(0, 0)), answer{n: 0})
	check(t, "of two", kid(t, kids(3, 1), key(0, 1)), answer{n: 1})
}

// P11.3: Kid of all inner pages of few Leasts, of keys of no table too: behind all of them the last kid, ahead of them, where the words know none, the first.
func TestKidOfMany(t *testing.T) {
	for _, c := range goodInners(20) {
		for _, k := range slices.Concat(someKeys, oddKeys) {
			want := 0
			for i, one := range c.Kids {
				if row.Compare(one.Least, k) <= 0 {
					want = i
				}
			}
			check(t, "Kid", kid(t, c, k), answer{n: want})
		}
	}
}

// P11.3: behind each kid.
func TestAdopt(t *testing.T) {
	c := kids(3, 5, 9)
	check(t, "behind the first", adopt(t, c, 0, 9, key(0, 2)), answer{a: inner(on(0, 0, 3), on(0, 2, 9), on(0, 5, 4), on(0, 9, 5))})
	check(t, "behind the second", adopt(t, c, 1, 63, key(0, 6)), answer{a: inner(on(0, 0, 3), on(0, 5, 4), on(0, 6, 63), on(0, 9, 5))})
	check(t, "behind the last", adopt(t, c, 2, 1, key(2, 65535)), answer{a: inner(on(0, 0, 3), on(0, 5, 4), on(0, 9, 5), on(2, 65535, 1))})
	check(t, "the least step", adopt(t, kids(3, 5), 0, 9, key(0, 1)), answer{a: inner(on(0, 0, 3), on(0, 1, 9), on(0, 5, 4))})
	check(t, "the greatest step", adopt(t, kids(3, 5), 0, 9, key(0, 4)), answer{a: inner(on(0, 0, 3), on(0, 4, 9), on(0, 5, 4))})
	check(t, "between tables", adopt(t, innerOf(3, key(2, 0)), 0, 9, key(1, 65535)), answer{a: inner(on(0, 0, 3), on(1, 65535, 9), on(2, 0, 4))})
}

// P11.3: the place of no kid, below 0 and behind the last; of a full page too.
func TestAdoptAtNoKid(t *testing.T) {
	for _, c := range []api.Content{kids(3, 5), kids(3, 5, 7), kids(3, 5, 7, 9)} {
		for _, at := range wrongPlaces(size(c)) {
			refused(t, "Adopt", adopt(t, c, at, 9, key(0, 10)), api.ErrArg)
			refused(t, "Adopt of what may not be", adopt(t, c, at, 0, key(3, 0)), api.ErrArg)
		}
	}
}

// P11.3: a full page takes no kid more, behind whichever it has, whether that may be or not.
func TestAdoptOfAFullPage(t *testing.T) {
	c := kids(3, 5, 7, 9)
	for at := range 4 {
		for _, k := range slices.Concat(someKeys, oddKeys) {
			for _, number := range []int{9, 3, 0, -1, 64, math.MaxInt} {
				refused(t, "Adopt", adopt(t, c, at, number, k), api.ErrFull)
			}
		}
	}
}

// P11.3: a Least that does not rise; a page twice; a page that may be no page; a Least of no table.
func TestAdoptOfWhatMayNotBe(t *testing.T) {
	c := kids(3, 5, 9)
	for _, q := range []struct {
		at, number int
		least      api.Key
	}{
		{0, 9, key(0, 0)}, {0, 9, key(0, 5)}, {0, 9, key(0, 6)}, {0, 9, key(1, 0)},
		{1, 9, key(0, 5)}, {1, 9, key(0, 4)}, {1, 9, key(0, 0)}, {1, 9, key(0, 9)}, {1, 9, key(0, 10)},
		{2, 9, key(0, 9)}, {2, 9, key(0, 8)}, {2, 9, key(0, 0)},
		{0, 3, key(0, 2)}, {0, 4, key(0, 2)}, {0, 5, key(0, 2)}, {2, 3, key(0, 10)}, {2, 4, key(0, 10)}, {2, 5, key(0, 10)},
		{0, 0, key(0, 2)}, {0, -1, key(0, 2)}, {0, 64, key(0, 2)}, {1, 256 + 9, key(0, 6)}, {2, 1<<32 + 9, key(0, 10)}, {2, math.MaxInt, key(0, 10)}, {2, math.MinInt, key(0, 10)},
		{2, 9, key(3, 0)}, {2, 9, key(256, 10)}, {2, 9, key(math.MaxInt, 0)}, {0, 9, key(-1, 2)}, {0, 9, key(math.MinInt, 2)},
	} {
		refused(t, "Adopt", adopt(t, c, q.at, q.number, q.least), api.ErrArg)
	}
}

// P11.3: Adopt behind each kid of all inner pages of few Leasts.
func TestAdoptOfMany(t *testing.T) {
	for _, c := range goodInners(20) {
		for at := range c.Kids {
			for _, k := range slices.Concat(someKeys, oddKeys) {
				for _, number := range []int{1, 20, 21, 63, 64} {
					var list []api.Kid
					for i, old := range c.Kids {
						list = append(list, old)
						if i == at {
							list = append(list, api.Kid{Least: k, Page: number})
						}
					}
					want := mayCome(inner(list...))
					if size(c) == 4 {
						want = answer{e: api.ErrFull}
					}
					check(t, "Adopt", adopt(t, c, at, number, k), want)
				}
			}
		}
	}
}

// P11.3: Disown of each kid behind the first one.
func TestDisown(t *testing.T) {
	c := kids(3, 5, 7, 9)
	check(t, "the second", disown(t, c, 1), answer{a: inner(on(0, 0, 3), on(0, 7, 5), on(0, 9, 6))})
	check(t, "the third", disown(t, c, 2), answer{a: inner(on(0, 0, 3), on(0, 5, 4), on(0, 9, 6))})
	check(t, "the last", disown(t, c, 3), answer{a: inner(on(0, 0, 3), on(0, 5, 4), on(0, 7, 5))})
	check(t, "the second of three", disown(t, kids(3, 5, 7), 1), answer{a: inner(on(0, 0, 3), on(0, 7, 5))})
	check(t, "the last of three", disown(t, kids(3, 5, 7), 2), answer{a: kids(3, 5)})
}

// P11.3: the first kid, the place of no kid, and each of no more than Few.
func TestDisownOfWhatMayNotGo(t *testing.T) {
	for _, c := range slices.Concat(goodInners(1), goodInners(60)) {
		refused(t, "the first one", disown(t, c, 0), api.ErrArg)
		for _, at := range wrongPlaces(size(c)) {
			refused(t, "the place of no kid", disown(t, c, at), api.ErrArg)
		}
		for i := 1; i < size(c); i++ {
			want := answer{a: inner(slices.Delete(cloned(c).Kids, i, i+1)...)}
			if size(c) == 2 {
				want = answer{e: api.ErrArg}
			}
			check(t, "Disown", disown(t, c, i), want)
		}
	}
}

// P11.3: Step of each kid behind the first one, to keys up to those beside it.
func TestStep(t *testing.T) {
	c := kids(3, 5, 9)
	check(t, "the second, least", step(t, c, 1, key(0, 1)), answer{a: kids(3, 1, 9)})
	check(t, "the second, as it is", step(t, c, 1, key(0, 5)), answer{a: c})
	check(t, "the second, greatest", step(t, c, 1, key(0, 8)), answer{a: kids(3, 8, 9)})
	check(t, "the last, least", step(t, c, 2, key(0, 6)), answer{a: kids(3, 5, 6)})
	check(t, "the last, as it is", step(t, c, 2, key(0, 9)), answer{a: c})
	check(t, "the last, greatest", step(t, c, 2, key(2, 65535)), answer{a: innerOf(3, key(0, 5), key(2, 65535))})
	check(t, "of two", step(t, kids(3, 5), 1, key(1, 0)), answer{a: innerOf(3, key(1, 0))})
	check(t, "of four", step(t, kids(3, 5, 7, 9), 2, key(0, 8)), answer{a: kids(3, 5, 8, 9)})
}

// P11.3: the first kid and the place of no kid; a key that does not rise, or is of no table.
func TestStepOfWhatMayNotBe(t *testing.T) {
	for _, c := range []api.Content{kids(3, 5), kids(3, 5, 7), kids(3, 5, 7, 9)} {
		for _, k := range slices.Concat(someKeys, oddKeys) {
			refused(t, "the first one", step(t, c, 0, k), api.ErrArg)
			for _, at := range wrongPlaces(size(c)) {
				refused(t, "the place of no kid", step(t, c, at, k), api.ErrArg)
			}
		}
	}
	c := kids(3, 5, 9)
	for _, k := range []api.Key{key(0, 0), key(0, 9), key(0, 10), key(1, 5), key(-1, 5), key(3, 5)} {
		refused(t, "the second", step(t, c, 1, k), api.ErrArg)
	}
	for _, k := range []api.Key{key(0, 0), key(0, 4), key(0, 5), key(-1, 9), key(3, 9), key(256, 9), key(math.MaxInt, 9)} {
		refused(t, "the last", step(t, c, 2, k), api.ErrArg)
	}
}

// P11.3: Step of each kid of all inner pages of few Leasts.
func TestStepOfMany(t *testing.T) {
	for _, c := range goodInners(20) {
		for at := 1; at < size(c); at++ {
			for _, k := range slices.Concat(someKeys, oddKeys) {
				want := cloned(c)
				want.Kids[at].Least = k
				check(t, "Step", step(t, c, at, k), mayCome(want))
			}
		}
	}
}

// P11.3: leaves and free pages are no inner ones, whatever else is wrong.
func TestNoInnerPages(t *testing.T) {
	for _, c := range slices.Concat([]api.Content{{}, free, {Rows: []api.Row{}, Kids: []api.Kid{}}}, goodLeaves()) {
		for _, k := range []api.Key{key(0, 0), key(0, 3), key(3, 0), key(-1, 0)} {
			refused(t, "Kid", kid(t, c, k), api.ErrInner)
			for _, at := range []int{-1, 0, 1, 2, 4, math.MaxInt} {
				refused(t, "Adopt", adopt(t, c, at, 9, k), api.ErrInner)
				refused(t, "Adopt of no page", adopt(t, c, at, 0, k), api.ErrInner)
				refused(t, "Disown", disown(t, c, at), api.ErrInner)
				refused(t, "Step", step(t, c, at, k), api.ErrInner)
			}
		}
	}
}
