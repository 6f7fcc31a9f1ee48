package tree_test

import (
	"slices"
	"testing"

	"bursary/api"
)

// node is the shape of a page of a tree: how many rows it has, or which kids.
type node struct {
	rows int
	kids []node
}

// lf is a leaf of so many rows.
func lf(rows int) node {
	return node{rows: rows}
}

// lfs is leaves of so many rows each.
func lfs(rows ...int) []node {
	var out []node
	for _, n := range rows {
		out = append(out, lf(n))
	}
	return out
}

// nd is an inner page.
func nd(kids ...node) node {
	return node{kids: kids}
}

// twos is an inner page of so many leaves, of two rows each.
func twos(leaves int) node {
	var out node
	for range leaves {
		out.kids = append(out.kids, lf(2))
	}
	return out
}

// each is an inner page whose kids are inner pages of so many leaves, of two rows each.
func each(leaves ...int) node {
	var out node
	for _, n := range leaves {
		out.kids = append(out.kids, twos(n))
	}
	return out
}

// least is the shape of as few pages as there may be so many pages deep.
func least(deep int) node {
	if deep == 1 {
		return lf(2)
	}
	return nd(least(deep-1), least(deep-1))
}

// path is the shape whose first page of each level has so many kids, rows as fans says, all others as few as there may be.
func path(fans []int) node {
	if len(fans) == 1 {
		return lf(fans[0])
	}
	out := nd(path(fans[1:]))
	for len(out.kids) < fans[0] {
		out.kids = append(out.kids, least(len(fans)-1))
	}
	return out
}

// fewest and most are how many pages a shape so many pages deep has.
func fewest(deep int) int {
	return 1<<deep - 1
}

func most(deep int) int {
	return (1<<(2*deep) - 1) / 3
}

// fill is a shape so many pages deep of just so many pages, if there is one.
func fill(deep, count int) (node, bool) {
	if count < fewest(deep) || count > most(deep) {
		return node{}, false
	}
	if deep == 1 {
		return lf(2), true
	}
	for fan := 2; fan <= 4; fan++ {
		if kids, there := spread(deep-1, fan, count-1); there {
			return nd(kids...), true
		}
	}
	return node{}, false
}

// spread is so many shapes so many pages deep, of just so many pages together, if there are such.
func spread(deep, fan, count int) ([]node, bool) {
	if count < fan*fewest(deep) || count > fan*most(deep) {
		return nil, false
	}
	var out []node
	for i := range fan {
		others := fan - 1 - i
		one, _ := fill(deep, min(most(deep), count-others*fewest(deep)))
		out = append(out, one)
		count -= one.count()
	}
	return out, true
}

// filled is a shape whose first page of each level is as fans says, of just so many pages, if there is one.
func filled(used int, fans []int) (node, bool) {
	first := path(fans[1:])
	others, there := spread(len(fans)-1, fans[0]-1, used-1-first.count())
	return nd(append([]node{first}, others...)...), there
}

// allFans are all fans of so many levels, from one number to another one.
func allFans(from, to int) [][]int {
	var out [][]int
	all := [][]int{{}}
	for n := 1; n <= to; n++ {
		var next [][]int
		for _, fans := range all {
			for fan := 2; fan <= 4; fan++ {
				next = append(next, append(slices.Clone(fans), fan))
			}
		}
		all = next
		if n >= from {
			out = append(out, all...)
		}
	}
	return out
}

// asked is for how many free pages a Put of a row more into the first leaf asks.
func asked(fans []int) int {
	out := 0
	for i, fan := range fans {
		if fan == 4 {
			out++
		}
		if fan == 4 && i == 0 {
			out++
		}
	}
	return out
}

// count is how many pages a shape has.
func (n node) count() int {
	out := 1
	for _, k := range n.kids {
		out += k.count()
	}
	return out
}

// rowsIn is how many rows a shape has.
func (n node) rowsIn() int {
	out := n.rows
	for _, k := range n.kids {
		out += k.rowsIn()
	}
	return out
}

// nth is the key of the n-th row, from 0 on, of a forest that is laid: of all tables, nine keys between each two.
func nth(n int) api.Key {
	return key(n/84, uint16(n%84*10+10))
}

// lay is the forest of a shape: its pages are of these numbers, but the root, in the order in which they are gone down to; a kid's Least is its least key, or as much below it as low says.
func lay(n node, numbers []int, low func() int) api.Forest {
	f := forest(nil)
	next := 0
	var down func(n node, num int)
	down = func(n node, num int) {
		if n.kids == nil {
			c := leaf()
			for range n.rows {
				c.Rows = append(c.Rows, rowOf(nth(next)))
				next++
			}
			f.Pages[num] = c
			return
		}
		var c api.Content
		for i, kid := range n.kids {
			k := api.Kid{Page: numbers[0]}
			numbers = numbers[1:]
			if i > 0 {
				k.Least = nth(next)
				k.Least.Id -= uint16(low())
			}
			c = inner(append(c.Kids, k)...)
			down(kid, k.Page)
		}
		f.Pages[num] = c
	}
	down(n, 0)
	return f
}

// plain is the forest of a shape, its numbers rising, each Least the least key.
func plain(n node) api.Forest {
	var numbers []int
	for i := range api.MaxPages - 1 {
		numbers = append(numbers, i+1)
	}
	return lay(n, numbers, func() int { return 0 })
}

// mixed is the forest of a shape, its numbers mixed, each Least somewhere behind the row ahead of it.
func mixed(d *dice, n node) api.Forest {
	return lay(n, d.shuffled(api.MaxPages-1), func() int { return d.throw(10) })
}

// anyShape is a shape of so many pages deep, or a root of some rows; of inner pages some have more kids than two, fewer than that and wide.
func (d *dice) anyShape(deep, wide int, isRoot bool) node {
	if deep == 1 && isRoot {
		return lf(d.throw(5))
	}
	if deep == 1 {
		return lf(2 + d.throw(3))
	}
	var out node
	for range 2 + d.throw(wide) {
		out.kids = append(out.kids, d.anyShape(deep-1, wide, false))
	}
	return out
}

// anyForest is a forest that may be, of from one to six pages deep.
func (d *dice) anyForest() api.Forest {
	for {
		if n := d.anyShape(1+d.throw(6), 1+d.throw(3), true); n.count() <= api.MaxPages {
			return mixed(d, n)
		}
	}
}

// crowdedForest is a forest that may be, of which few pages are free.
func (d *dice) crowdedForest() api.Forest {
	for {
		fans := allFans(4, 5)
		if n, there := filled(api.MaxPages-d.throw(4), fans[d.throw(len(fans))]); there {
			return mixed(d, n)
		}
	}
}

// The shapes of these tests lead to forests that may be.
func TestShapes(t *testing.T) {
	var d dice
	deep := map[int]int{}
	for i := range 3000 {
		f := d.anyForest()
		if i%10 == 0 {
			f = d.crowdedForest()
		}
		if !mayBeByWords(f) {
			t.Fatalf("%v may not be", f)
		}
		ways, _ := waysByWords(f)
		for num, way := range ways {
			if f.Pages[num].Kind == api.KindLeaf {
				deep[len(way)+1]++
				break
			}
		}
	}
	for n := 1; n <= 6; n++ {
		if deep[n] < 100 {
			t.Fatalf("forests were so deep: %v", deep)
		}
	}
	if n := least(6); n.count() != 63 || n.rowsIn() != 64 {
		t.Fatalf("%d pages, %d rows", n.count(), n.rowsIn())
	}
}
