package codec_test

import (
	"testing"

	"bursary/api"
	"bursary/codec"
)

// checkSame asks Same both ways round.
func checkSame(t *testing.T, a, b api.Content, want bool) {
	t.Helper()
	if codec.Same(a, b) != want || codec.Same(b, a) != want {
		t.Fatalf("Same of %v and %v: %t, %t; want %t", a, b, codec.Same(a, b), codec.Same(b, a), want)
	}
}

// P6.1: each is the same as itself in other memory, and as no other one, whether they may be or not.
func TestSame(t *testing.T) {
	all := inOrder(badContents())
	for i, c := range goodContents() {
		if len(c.Rows) != 1 || i%17 == 0 {
			all = append(all, c)
		}
	}
	for i, a := range all {
		checkSame(t, a, cloned(a), true)
		for _, b := range all[:i] {
			checkSame(t, a, b, alike(a, b))
		}
	}
}

// P6.1: nil and empty lists are one.
func TestSameOfNilAndEmpty(t *testing.T) {
	for _, kind := range []int{-1, api.KindFree, api.KindLeaf, api.KindInner, 3, 1000} {
		a := api.Content{Kind: kind}
		checkSame(t, a, api.Content{Kind: kind, Rows: []api.Row{}, Kids: []api.Kid{}}, true)
		checkSame(t, a, api.Content{Kind: kind, Rows: []api.Row{}}, true)
		checkSame(t, a, api.Content{Kind: kind, Kids: []api.Kid{}}, true)
	}
}

// P6.1: contents that differ in Kind alone.
func TestSameOfOtherKinds(t *testing.T) {
	for _, c := range []api.Content{free, fullLeaf(2), fullInner(2), {Kind: 7, Rows: fullLeaf(3).Rows, Kids: fullInner(3).Kids}} {
		for _, kind := range []int{-1, 0, 1, 2, 3, 256, 257, 258} {
			other := cloned(c)
			other.Kind = kind
			checkSame(t, c, other, c.Kind == kind)
		}
	}
}

// P6.1: contents that differ in one field of one row, at each place; a leaf of more rows than it may have is among them.
func TestSameOfOtherRows(t *testing.T) {
	for n := 1; n <= api.MaxLeaf+2; n++ {
		for i := range n {
			for _, change := range []func(r *api.Row){
				func(r *api.Row) { r.Key.Table++ },
				func(r *api.Row) { r.Key.Id++ },
				func(r *api.Row) { r.Val++ },
				func(r *api.Row) { r.Val ^= -1 << 63 },
				func(r *api.Row) { r.Note += "x" },
				func(r *api.Row) { r.Note = r.Note[1:] },
				func(r *api.Row) { r.Note = r.Note[1:] + "x" },
				func(r *api.Row) { r.Note = "" },
			} {
				c := fullLeaf(n)
				change(&c.Rows[i])
				checkSame(t, fullLeaf(n), c, false)
			}
		}
	}
}

// P6.1: contents that differ in one field of one kid, at each place.
func TestSameOfOtherKids(t *testing.T) {
	for n := 1; n <= api.MaxKids+2; n++ {
		for i := range n {
			for _, change := range []func(k *api.Kid){
				func(k *api.Kid) { k.Least.Table++ },
				func(k *api.Kid) { k.Least.Id++ },
				func(k *api.Kid) { k.Page++ },
				func(k *api.Kid) { k.Page += 256 },
				func(k *api.Kid) { k.Page = -k.Page },
			} {
				c := fullInner(n)
				change(&c.Kids[i])
				checkSame(t, fullInner(n), c, false)
			}
		}
	}
}

// P6.1: contents of which one has a row, or a kid, more; or the same ones in another order.
func TestSameOfOtherNumbers(t *testing.T) {
	for n := range 6 {
		rows, kids := fullLeaf(6).Rows, fullInner(6).Kids
		checkSame(t, leaf(rows[:n]...), leaf(rows[:n+1]...), false)
		checkSame(t, inner(kids[:n]...), inner(kids[:n+1]...), false)
		checkSame(t, leaf(rows[n:]...), leaf(rows[n+1:]...), false)
		checkSame(t, inner(kids[n:]...), inner(kids[n+1:]...), false)
		checkSame(t, api.Content{Kind: 1, Rows: rows, Kids: kids[:n]}, api.Content{Kind: 1, Rows: rows, Kids: kids[:n+1]}, false)
	}
	r, k := fullLeaf(2).Rows, fullInner(2).Kids
	checkSame(t, leaf(r[0], r[1]), leaf(r[1], r[0]), false)
	checkSame(t, inner(k[0], k[1]), inner(k[1], k[0]), false)
	checkSame(t, leaf(r[0], r[0]), leaf(r[0]), false)
	checkSame(t, leaf(r[0], r[1]), leaf(r[0], r[0]), false)
}
