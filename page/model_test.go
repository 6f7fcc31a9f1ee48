package page_test

import (
	"maps"
	"slices"
	"testing"

	"bursary/api"
	"bursary/page"
	"bursary/row"
)

// chain is pages of one Kind that stand beside one another, and the step ahead of each of them, the first one's zero.
type chain struct {
	pages []api.Content
	steps []api.Key
}

// whose is the place of the page for a key.
func (c *chain) whose(k api.Key) int {
	i := len(c.steps) - 1
	for i > 0 && row.Compare(c.steps[i], k) > 0 {
		i--
	}
	return i
}

// makeRoom splits the page for a key, if it is full, and is the place of the page for the key then.
func (c *chain) makeRoom(t *testing.T, k api.Key) int {
	t.Helper()
	i := c.whose(k)
	if !page.Full(c.pages[i]) {
		return i
	}
	s := split(t, c.pages[i])
	expectOK(t, s)
	c.pages = slices.Replace(c.pages, i, i+1, s.a, s.b)
	c.steps = slices.Insert(c.steps, i+1, s.key)
	return c.whose(k)
}

// makeMore joins or levels the page for a key, if it is small, and is the place of the page for the key then.
func (c *chain) makeMore(t *testing.T, k api.Key) int {
	t.Helper()
	i := c.whose(k)
	if !page.Small(c.pages[i]) || len(c.pages) == 1 {
		return i
	}
	i = min(i, len(c.pages)-2)
	a, b := c.pages[i], c.pages[i+1]
	if got := join(t, a, b, c.steps[i+1]); got.e == api.OK {
		c.pages = slices.Replace(c.pages, i, i+2, got.a)
		c.steps = slices.Delete(c.steps, i+1, i+2)
		return c.whose(k)
	}
	got := level(t, a, b, c.steps[i+1])
	expectOK(t, got)
	c.pages[i], c.pages[i+1], c.steps[i+1] = got.a, got.b, got.key
	return c.whose(k)
}

// checkSizes asks whether no page of several has less than Few rows, kids.
func (c *chain) checkSizes(t *testing.T) {
	t.Helper()
	for _, p := range c.pages {
		if len(c.pages) > 1 && page.Size(p) < api.Few {
			t.Fatalf("%v has a page of too few", c.pages)
		}
	}
}

// P11.5: rows that are put into leaves and taken out of them, which are split, joined, levelled where that is needed, are those that were put and not taken; and so is each other one.
func TestLeavesOfManyRows(t *testing.T) {
	var d dice
	c := chain{pages: []api.Content{leaf()}, steps: []api.Key{key(0, 0)}}
	want := map[api.Key]api.Row{}
	most := 0
	for n := range 6000 {
		k := key(d.throw(3), uint16(d.throw(20)))
		// it grows for a while, and shrinks for a while
		if d.throw(10) < 3+4*(n/1000%2) {
			r := api.Row{Key: k, Val: int64(n), Note: "n"[:n%2]}
			i := c.makeRoom(t, k)
			got := put(t, c.pages[i], r)
			expectOK(t, got)
			c.pages[i], want[k] = got.a, r
		} else if r, there := want[k]; there {
			i := c.makeMore(t, k)
			got := take(t, c.pages[i], k)
			check(t, "Take", got, answer{a: got.a, row: r})
			c.pages[i] = got.a
			delete(want, k)
		} else {
			refused(t, "Take", take(t, c.pages[c.whose(k)], k), api.ErrNone)
		}
		c.checkSizes(t)
		checkRowsOf(t, c, want)
		most = max(most, len(c.pages))
	}
	if most < 8 {
		t.Fatalf("there were %d pages at most", most)
	}
}

// checkRowsOf asks whether a chain of leaves has these rows, in order, and each is got from the page for its key.
func checkRowsOf(t *testing.T, c chain, want map[api.Key]api.Row) {
	t.Helper()
	keys := slices.SortedFunc(maps.Keys(want), row.Compare)
	got, _ := listed(c.pages...)
	if len(got) != len(keys) {
		t.Fatalf("%d rows, want %d", len(got), len(keys))
	}
	for i, k := range keys {
		if got[i] != want[k] {
			t.Fatalf("the row %d is %v, want %v", i, got[i], want[k])
		}
		check(t, "Get", get(t, c.pages[c.whose(k)], k), answer{row: want[k]})
	}
}

// kidsOf is the kids of a chain of inner pages, a page's first one with the step ahead of that page.
func kidsOf(c chain) []api.Kid {
	var out []api.Kid
	for i, p := range c.pages {
		for j, k := range p.Kids {
			if j == 0 {
				k.Least = c.steps[i]
			}
			out = append(out, k)
		}
	}
	return out
}

// placeOf is where a kid of a key stands, or would stand, and whether it is there.
func placeOf(all []api.Kid, k api.Key) (int, bool) {
	return slices.BinarySearchFunc(all, k, func(one api.Kid, k api.Key) int { return row.Compare(one.Least, k) })
}

// unused is the least page that is nobody's.
func unused(all []api.Kid) int {
	for n := 1; ; n++ {
		if !slices.ContainsFunc(all, func(k api.Kid) bool { return k.Page == n }) {
			return n
		}
	}
}

// P11.3, P11.5: kids that are adopted, disowned, stepped in inner pages, which are split, joined, levelled where that is needed, are those of a plain list.
func TestInnerPagesOfManyKids(t *testing.T) {
	var d dice
	c := chain{pages: []api.Content{innerOf(1, key(1, 7))}, steps: []api.Key{key(0, 0)}}
	want := []api.Kid{on(0, 0, 1), on(1, 7, 2)}
	most := 0
	for n := range 6000 {
		k := key(d.throw(3), uint16(d.throw(12)))
		place, there := placeOf(want, k)
		switch {
		case !there && d.throw(10) < 3+4*(n/1000%2):
			i := c.makeRoom(t, k)
			number := unused(want)
			got := adopt(t, c.pages[i], kid(t, c.pages[i], k).n, number, k)
			expectOK(t, got)
			c.pages[i] = got.a
			want = slices.Insert(want, place, api.Kid{Least: k, Page: number})
		case there && place > 0 && d.throw(2) == 0:
			i := c.makeMore(t, k)
			at := kid(t, c.pages[i], k).n
			if got := disown(t, c.pages[i], at); got.e == api.OK {
				c.pages[i] = got.a
				want = slices.Delete(want, place, place+1)
			} else if at > 0 && size(c.pages[i]) > 2 {
				t.Fatalf("Disown(%v, %d): error %d", c.pages[i], at, got.e)
			}
		case there:
			i := c.whose(k)
			at, to := kid(t, c.pages[i], k).n, key(k.Table, k.Id+1)
			if got := step(t, c.pages[i], at, to); got.e == api.OK && (i == len(c.pages)-1 || row.Compare(to, c.steps[i+1]) < 0) {
				c.pages[i] = got.a
				want[place].Least = to
			}
		}
		if got := kidsOf(c); !slices.Equal(got, want) {
			t.Fatalf("the kids are %v, want %v", got, want)
		}
		c.checkSizes(t)
		most = max(most, len(c.pages))
	}
	if most < 5 {
		t.Fatalf("there were %d pages at most", most)
	}
}
