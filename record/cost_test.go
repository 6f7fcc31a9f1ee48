package record_test

import (
	"fmt"
	"testing"

	"bursary/api"
	"bursary/record"
)

// checkCost asks Cost.
func checkCost(t *testing.T, r api.Rec, want int) {
	t.Helper()
	if n, e := record.Cost(r); e != api.OK || n != want {
		t.Fatalf("Cost(%+v): %d, error %d, want %d", r, n, e, want)
	}
}

// checkReserve asks Reserve.
func checkReserve(t *testing.T, r api.Rec, want int) {
	t.Helper()
	if n, e := record.Reserve(r); e != api.OK || n != want {
		t.Fatalf("Reserve(%+v): %d, error %d, want %d", r, n, e, want)
	}
}

// P12.3: undoable are Changes and Dones that may be, nothing else.
func TestUndoable(t *testing.T) {
	for _, r := range goodRecs() {
		if got, want := record.Undoable(r), r.Kind == api.RecChange || r.Kind == api.RecDone; got != want {
			t.Fatalf("Undoable(%+v): %t", r, got)
		}
	}
	for _, kind := range []int{api.RecChange, api.RecDone} {
		r := some(kind)
		r.Prev = 0
		mustNotBe(t, "one without a record ahead", r)
	}
	if record.Undoable(api.Rec{}) || record.Undoable(whole()) {
		t.Fatal("what may not be is undoable")
	}
}

// P12.3: a record costs as many sectors as its bytes need: at the bounds of a sector, and everywhere else.
func TestCost(t *testing.T) {
	d := dice(3)
	all := goodRecs()
	for range 5000 {
		all = append(all, d.rec())
	}
	for note := range 9 {
		all = append(all, done(9, 1, 8, 7, take(0, 1), set(at(0, 1, 1, long(note)))))
	}
	last, first := map[int]int{}, map[int]int{}
	for _, r := range all {
		n := len(laid(r))
		checkCost(t, r, sectors(n))
		if n%52 == 0 {
			last[r.Kind]++
		}
		if n%52 == 1 {
			first[r.Kind]++
		}
	}
	for _, kind := range []int{api.RecChange, api.RecDone, api.RecUndone, api.RecCkpt} {
		if last[kind] == 0 || first[kind] == 0 {
			t.Fatalf("of the Kind %d %d ended at the bound of a sector, %d one behind it", kind, last[kind], first[kind])
		}
	}
	for _, kind := range []int{api.RecBegin, api.RecNested, api.RecCommit, api.RecAbort, api.RecEnd} {
		checkCost(t, some(kind), 1)
	}
}

// P12.3: at the bounds of one sector, and of two, written out.
func TestCostAtBounds(t *testing.T) {
	for note, want := range map[int]int{0: 1, 4: 1, 5: 1, 6: 2, 8: 2} { // 47 bytes, and the note
		checkCost(t, done(9, 1, 8, 7, take(0, 1), put(at(0, 1, 1, long(note)))), want)
	}
	for pages, want := range map[int]int{0: 1, 2: 1, 3: 2, 8: 2, 9: 3, 25: 5, 26: 6, 49: 9, 50: 10, 64: 12} { // 27 bytes, and 9 of each page
		checkCost(t, ckpt(900, 1, nil, dirty(pages, 900)), want)
	}
	for many, want := range map[int]int{0: 1, 1: 2, 2: 2, 3: 3, 8: 5} { // 27 bytes, and 29 of each transaction
		checkCost(t, ckpt(900, 99, txns(many, 900), nil), want)
	}
	for many, want := range map[int]int{0: 1, 11: 1, 12: 2, 16: 2} { // 30 bytes, and 2 of each page
		var l []api.Image
		for page := range many {
			l = append(l, image(page, free, free))
		}
		checkCost(t, undone(9, 1, 8, 7, l...), want)
	}
	for many, want := range map[int]int{1: 1, 10: 1, 11: 2, 16: 2} { // 22 bytes, and 3 of each page
		var l []api.Image
		for page := range many {
			l = append(l, image(page, free, free))
		}
		checkCost(t, change(9, 1, 8, l...), want)
	}
}

// P12.3: undoing a Begin costs 2, whatever its numbers; undoing what is not undone costs nothing.
func TestReserveOfOthers(t *testing.T) {
	for _, r := range goodRecs() {
		switch r.Kind {
		case api.RecBegin:
			checkReserve(t, r, 2)
		case api.RecNested, api.RecUndone, api.RecCommit, api.RecAbort, api.RecEnd, api.RecCkpt:
			checkReserve(t, r, 0)
		}
	}
}

// P12.3: undoing a Change costs what the pages held, whatever they hold now.
func TestReserveOfChange(t *testing.T) {
	sizes := map[int]int{}
	for _, c := range contents() {
		sizes[len(laidContent(c))]++
		for _, now := range []api.Content{free, c, fullLeaf(4)} {
			checkReserve(t, change(9, 1, 8, image(5, c, now)), sectors(31+len(laidContent(c))))
			checkReserve(t, change(900, 1, 8, image(0, c, now), image(63, c, leaf())), sectors(32+2*len(laidContent(c))))
		}
	}
	for _, size := range []int{1, 2, 10, 14, 18, 22, 82} {
		if sizes[size] == 0 {
			t.Fatalf("no content of %d bytes", size)
		}
	}
	for many, want := range map[int]int{1: 3, 2: 4, 12: 20, 13: 22, 16: 27} { // 30 bytes, and 83 of each page
		var l []api.Image
		for page := range many {
			l = append(l, image(2*page, fullLeaf(int64(page)), free))
		}
		checkReserve(t, change(9, 1, 8, l...), want)
	}
	d := dice(4)
	for range 2000 {
		r := change(9, 1, 8, d.images(1)...)
		n := 30
		for _, im := range r.Images {
			n += 1 + len(laidContent(im.Before))
		}
		checkReserve(t, r, sectors(n))
	}
}

// P12.3: undoing a Done costs as many pages of the greatest size as its steps may change.
func TestReserveOfDone(t *testing.T) {
	pages := map[int]int{api.StepAdd: 1, api.StepSet: 1, api.StepPut: 12, api.StepTake: 12}
	want := map[int]int{1: 3, 2: 4, 12: 20, 13: 22, 16: 27}
	for _, a := range steps() {
		checkReserve(t, done(9, 1, 8, 7, a), want[pages[a.Kind]])
		for _, b := range steps() {
			n := min(16, pages[a.Kind]+pages[b.Kind])
			if want[n] != sectors(30+83*n) {
				t.Fatal(fmt.Sprint(n, " pages"))
			}
			checkReserve(t, done(900, 1, 8, 0, a, b), want[n])
		}
	}
}
