package page_test

import (
	"testing"

	"bursary/api"
	"bursary/page"
)

// The chapter's numbers.
func TestNumbers(t *testing.T) {
	if api.Few != 2 || api.MaxLeaf != 4 || api.MaxKids != 4 || api.MaxPages != 64 {
		t.Fatal("the limits are not the chapter's")
	}
	if api.ErrLeaf != 211 || api.ErrInner != 212 || api.ErrContent != 160 || api.ErrRow != 151 || api.ErrArg != 2 || api.ErrNone != 4 || api.ErrFull != 6 {
		t.Fatal("the errors are not the chapter's")
	}
}

// checkTold holds Size, Full and Small of a page against what is wanted.
func checkTold(t *testing.T, name string, c api.Content, size int, full, small bool) {
	t.Helper()
	in := roomy(c)
	if n := page.Size(in); n != size {
		t.Fatalf("%s: Size(%v) is %d, want %d", name, c, n, size)
	}
	if page.Full(in) != full {
		t.Fatalf("%s: Full(%v) is not %t", name, c, full)
	}
	if page.Small(in) != small {
		t.Fatalf("%s: Small(%v) is not %t", name, c, small)
	}
	checkUntouched(t, in, c)
}

// P11.1: leaves and inner pages of each size.
func TestSizeFullSmall(t *testing.T) {
	checkTold(t, "no rows", ids(), 0, false, true)
	checkTold(t, "no rows, not nil", api.Content{Kind: api.KindLeaf, Rows: []api.Row{}, Kids: []api.Kid{}}, 0, false, true)
	checkTold(t, "one row", ids(7), 1, false, true)
	checkTold(t, "two rows", ids(7, 8), 2, false, true)
	checkTold(t, "three rows", ids(7, 8, 9), 3, false, false)
	checkTold(t, "four rows", ids(7, 8, 9, 10), 4, true, false)
	checkTold(t, "two kids", kids(3, 7), 2, false, true)
	checkTold(t, "three kids", kids(3, 7, 8), 3, false, false)
	checkTold(t, "four kids", kids(3, 7, 8, 9), 4, true, false)
}

// P11.1: many pages.
func TestSizeFullSmallOfMany(t *testing.T) {
	for _, c := range goodPages() {
		has := c.Kind != api.KindFree
		checkTold(t, "a page", c, size(c), has && size(c) == 4, has && size(c) <= 2)
	}
}

// P11.1: a free page has no size, and is neither full nor small.
func TestSizeFullSmallOfAFreePage(t *testing.T) {
	checkTold(t, "free", free, 0, false, false)
	checkTold(t, "free, not nil", api.Content{Rows: []api.Row{}, Kids: []api.Kid{}}, 0, false, false)
}

// P11.1: so is what may not be, however many rows, kids it has.
func TestSizeFullSmallOfWhatMayNotBe(t *testing.T) {
	for name, c := range badPages() {
		checkTold(t, name, c, 0, false, false)
	}
	checkTold(t, "four rows and four kids", api.Content{Kind: api.KindLeaf, Rows: ids(1, 2, 3, 4).Rows, Kids: kids(3, 1, 2, 3).Kids}, 0, false, false)
	checkTold(t, "two and two", api.Content{Kind: api.KindInner, Rows: ids(1, 2).Rows, Kids: kids(3, 1).Kids}, 0, false, false)
}
