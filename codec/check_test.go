package codec_test

import (
	"math"
	"testing"

	"bursary/api"
	"bursary/codec"
)

// P6.1: which rows may be laid: by Table and by how long Note is, whatever the rest.
func TestCheckRow(t *testing.T) {
	for _, r := range goodRows() {
		expect(t, "CheckRow", codec.CheckRow(r), api.OK)
	}
	for _, r := range badRows() {
		expect(t, "CheckRow", codec.CheckRow(r), api.ErrRow)
	}
	for size := range 600 {
		want := api.ErrRow
		if size <= api.MaxNote {
			want = api.OK
		}
		expect(t, "CheckRow", codec.CheckRow(at(1, 7, 5, long(size))), want)
	}
}

// P6.1: contents that may be; a nil list and an empty one are the same.
func TestCheck(t *testing.T) {
	for _, c := range goodContents() {
		expect(t, "Check", codec.Check(c), api.OK)
	}
	expect(t, "zero", codec.Check(api.Content{}), api.OK)
	expect(t, "free", codec.Check(api.Content{Kind: api.KindFree, Rows: []api.Row{}, Kids: []api.Kid{}}), api.OK)
	expect(t, "a leaf", codec.Check(api.Content{Kind: api.KindLeaf, Rows: []api.Row{}, Kids: []api.Kid{}}), api.OK)
	expect(t, "inner", codec.Check(api.Content{Kind: api.KindInner, Rows: []api.Row{}, Kids: fullInner(3).Kids}), api.OK)
}

// P6.1: contents that may not be.
func TestCheckOfBadContents(t *testing.T) {
	for name, c := range badContents() {
		expect(t, name+": Check", codec.Check(c), api.ErrContent)
	}
}

// P6.1: there is no other Kind, whatever it would have.
func TestCheckOfOtherKinds(t *testing.T) {
	for _, kind := range []int{math.MinInt, -256, -255, -2, -1, 3, 4, 255, 256, 257, 258, 1 << 32, 1<<32 + 1, math.MaxInt} {
		for _, c := range []api.Content{free, leaf(), fullLeaf(2), fullInner(2)} {
			c.Kind = kind
			expect(t, "Check of another Kind", codec.Check(c), api.ErrContent)
		}
	}
}

// P6.1: how many rows a leaf has, and how many kids an inner content.
func TestCheckOfNumbers(t *testing.T) {
	for n := range 300 {
		want := api.ErrContent
		if n <= api.MaxLeaf {
			want = api.OK
		}
		expect(t, "a leaf", codec.Check(fullLeaf(n)), want)
		want = api.ErrContent
		if n >= 2 && n <= api.MaxKids {
			want = api.OK
		}
		expect(t, "inner", codec.Check(fullInner(n)), want)
	}
}

// P6.1: a row that may not be laid is seen at each place of a leaf.
func TestCheckOfRowsAtEachPlace(t *testing.T) {
	for n := 1; n <= api.MaxLeaf; n++ {
		for i := range n {
			for _, r := range badRows() {
				c := fullLeaf(n)
				c.Rows[i] = r
				expect(t, "a bad row", codec.Check(c), api.ErrContent)
				c = fullLeaf(n)
				c.Rows[i].Note = r.Note
				c.Rows[i].Key.Table = r.Key.Table
				expect(t, "a bad row in order by Id", codec.Check(c), api.ErrContent)
			}
			if i == 0 {
				continue
			}
			c := fullLeaf(n)
			c.Rows[i-1], c.Rows[i] = c.Rows[i], c.Rows[i-1]
			expect(t, "two rows exchanged", codec.Check(c), api.ErrContent)
			c = fullLeaf(n)
			c.Rows[i].Key = c.Rows[i-1].Key
			expect(t, "a key twice", codec.Check(c), api.ErrContent)
		}
	}
}

// P6.1: a kid that may not be is seen at each place of an inner content.
func TestCheckOfKidsAtEachPlace(t *testing.T) {
	for n := 2; n <= api.MaxKids; n++ {
		for i := range n {
			spoilt := func(name string, spoil func(k *api.Kid)) {
				c := fullInner(n)
				spoil(&c.Kids[i])
				expect(t, name, codec.Check(c), api.ErrContent)
			}
			for _, page := range []int{math.MinInt, -1, 0, 64, 65, 255, 256, 257, math.MaxInt} {
				spoilt("no such Page", func(k *api.Kid) { k.Page = page })
			}
			for _, table := range []int{math.MinInt, -1, 3, 4, 256, math.MaxInt} {
				spoilt("no such Table", func(k *api.Kid) { k.Least.Table = table })
			}
			for j := range n {
				if j != i {
					spoilt("a Page twice", func(k *api.Kid) { k.Page = fullInner(n).Kids[j].Page })
					spoilt("a Least twice", func(k *api.Kid) { k.Least = fullInner(n).Kids[j].Least })
				}
			}
			if i > 0 {
				c := fullInner(n)
				c.Kids[i-1].Least, c.Kids[i].Least = c.Kids[i].Least, c.Kids[i-1].Least
				expect(t, "two of Least exchanged", codec.Check(c), api.ErrContent)
			}
		}
	}
}

// P6.1: each Page from 1 to MaxPages less 1, at each place.
func TestCheckOfPages(t *testing.T) {
	for page := -3; page < 300; page++ {
		want := api.ErrContent
		if page >= 1 && page < api.MaxPages {
			want = api.OK
		}
		other := 1
		if page == 1 {
			other = 2
		}
		expect(t, "first", codec.Check(inner(on(0, 0, page), on(0, 1, other))), want)
		expect(t, "last", codec.Check(inner(on(0, 0, other), on(0, 1, page))), want)
	}
}

// P6.1: each Table of a Least from 0 to MaxTables less 1.
func TestCheckOfLeastTables(t *testing.T) {
	for table := -3; table < 300; table++ {
		want := api.ErrContent
		if table >= 0 && table < api.MaxTables {
			want = api.OK
		}
		expect(t, "Least's Table", codec.Check(inner(on(0, 0, 1), on(table, 65535, 2))), want)
	}
}

// P6.1, R3: what is handed in stays, where it may be and where it may not.
func TestChecksChangeNothing(t *testing.T) {
	all := append(goodContents(), inOrder(badContents())...)
	for _, c := range all {
		was := cloned(c)
		codec.Check(c)
		codec.Same(c, was)
		if !alike(c, was) {
			t.Fatalf("%v is left of %v", c, was)
		}
	}
}
