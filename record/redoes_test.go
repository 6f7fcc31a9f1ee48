package record_test

import (
	"math"
	"testing"

	"bursary/api"
	"bursary/record"
)

// checkRedoes asks Redoes for what a page holds.
func checkRedoes(t *testing.T, r api.Rec, page int, want api.Content) {
	t.Helper()
	if c, there := record.Redoes(r, page); !there || !alikeContent(c, want) {
		t.Fatalf("Redoes(%+v, %d): %v, %t, want %v", r, page, c, there, want)
	}
}

// notRedone asks Redoes for nothing.
func notRedone(t *testing.T, r api.Rec, page int) {
	t.Helper()
	if c, there := record.Redoes(r, page); there || !alikeContent(c, free) {
		t.Fatalf("Redoes(%+v, %d): %v, %t", r, page, c, there)
	}
}

// P12.4: a page ahead of all images, each of them, one between, one behind.
func TestRedoes(t *testing.T) {
	for _, r := range []api.Rec{some(api.RecChange), some(api.RecUndone)} {
		for page := -2; page < 70; page++ {
			switch page {
			case 3:
				checkRedoes(t, r, page, fullLeaf(9))
			case 8:
				checkRedoes(t, r, page, leaf())
			case 20:
				checkRedoes(t, r, page, free)
			default:
				notRedone(t, r, page)
			}
		}
		for _, page := range []int{math.MinInt, -253, 256, 259, 1<<32 + 3, math.MaxInt} {
			notRedone(t, r, page)
		}
	}
	notRedone(t, undone(9, 1, 8, 7), 0)
}

// P12.4: of all pages of many records; of other Kinds no page is redone.
func TestRedoesOfAll(t *testing.T) {
	d := dice(8)
	all := goodRecs()
	for range 1000 {
		all = append(all, d.rec())
	}
	n := 0
	for _, r := range all {
		after := map[int]api.Content{}
		for _, im := range r.Images {
			after[im.Page] = im.After
		}
		for page := range api.MaxPages {
			if c, there := after[page]; there {
				checkRedoes(t, r, page, c)
				n++
			} else {
				notRedone(t, r, page)
			}
		}
	}
	if n < 1000 {
		t.Fatalf("%d pages were redone", n)
	}
}

// P12.4: of a record that may not be no page is redone, though it has an image of it.
func TestRedoesOfNone(t *testing.T) {
	for _, kind := range append(noKinds, kinds...) {
		r := some(api.RecChange)
		r.Kind = kind
		if kind == api.RecChange {
			r.Images[2].Page = 64
		}
		for _, page := range []int{3, 8, 20, 64} {
			notRedone(t, r, page)
		}
	}
	r := some(api.RecUndone)
	r.Next = r.Lsn
	notRedone(t, r, 3)
	r = some(api.RecUndone)
	r.Images[2].Before = leaf()
	notRedone(t, r, 3)
	r = some(api.RecChange)
	r.Next = 1
	notRedone(t, r, 3)
}
