package tree_test

import (
	"math"
	"testing"

	"bursary/api"
)

// oddKeys are keys of no table: ahead of all others, and behind them. Cut to a byte, or to 32 bits, some would be of one.
var oddKeys = []api.Key{key(-1, 0), key(-1, 65535), key(3, 0), key(3, 65535), key(256, 1), key(-256, 1), key(1<<32, 1), key(-1<<32+1, 0), key(math.MaxInt, 2), key(math.MinInt, 2)}

// someKeys are keys of all tables, among them the first and the last one of all.
var someKeys = []api.Key{key(0, 0), key(0, 10), key(0, 11), key(0, 40), key(0, 65535), key(1, 0), key(1, 7), key(2, 0), key(2, 65535)}

// badRows are rows that may not be laid.
func badRows() []api.Row {
	out := []api.Row{at(0, 10, 0, "nine byte"), at(0, 12, 0, "123456789"), at(3, 10, 0, "nine byte"), at(2, 65535, 0, string(make([]byte, 300)))}
	for _, k := range oddKeys {
		out = append(out, api.Row{Key: k})
	}
	return out
}

// P13.2, P13.3, P13.4: of what may not be each call says ErrForest, ahead of all else, with arguments that would do and with such as would not; and Free and Depth say 0.
func TestWhatMayNotBe(t *testing.T) {
	for name, f := range badForests() {
		refused(t, name+": Rows", rows(t, f), api.ErrForest)
		for _, k := range append(oddKeys, someKeys...) {
			refused(t, name+": Get", get(t, f, k), api.ErrForest)
			refused(t, name+": Take", take(t, f, k), api.ErrForest)
			refused(t, name+": Put", put(t, f, api.Row{Key: k}), api.ErrForest)
		}
		for _, r := range badRows() {
			refused(t, name+": Put of what may not be laid", put(t, f, r), api.ErrForest)
		}
		for _, l := range [][]api.Group{nil, {}, {sheets()}, {sheets(sheet(0, ids(1)))}, {sheets(sheet(-1, free))}, {sheets(sheet(64, free))}, {sheets(sheet(0, free))}} {
			refused(t, name+": Apply", apply(t, f, l...), api.ErrForest)
		}
		if n := freeOf(t, f); n != 0 {
			t.Fatalf("%s: Free is %d", name, n)
		}
		if n := depth(t, f); n != 0 {
			t.Fatalf("%s: Depth is %d", name, n)
		}
	}
}

// P13.4: a group that would make a forest of what is none does not count: what is handed in must be one.
func TestApplyToWhatMayNotBe(t *testing.T) {
	f := forest(with(three(), pages{3: ids(95, 96)}))
	refused(t, "a group that frees the page", apply(t, f, sheets(sheet(3, free))), api.ErrForest)
	f = forest(nil)
	refused(t, "a group that lays a root", apply(t, f, sheets(sheet(0, leaf()))), api.ErrForest)
}

// P13.3: each error goes ahead of those behind it, where several apply.
func TestErrorsInOrder(t *testing.T) {
	full := plain(nd(each(4, 4, 4, 4), each(4, 4, 4, 4), each(3, 3, 3), each(2, 3)))
	bad := forest(with(three(), pages{3: ids(95, 96)}))
	refused(t, "Put: ErrForest", put(t, bad, at(3, 0, 0, "nine byte")), api.ErrForest)
	for _, r := range badRows() {
		refused(t, "Put: ErrRow", put(t, full, r), api.ErrRow)
	}
	refused(t, "Put: ErrFull", put(t, full, rowOf(key(0, 11))), api.ErrFull)
}

// P13.3: rows that may not be laid are not put, whether their key is there or not, into whatever forest.
func TestPutOfWhatMayNotBeLaid(t *testing.T) {
	for name, f := range goodForests() {
		for _, r := range badRows() {
			refused(t, name, put(t, f, r), api.ErrRow)
		}
		for _, r := range rowsByWords(f) {
			r.Note = "nine byte"
			refused(t, name+": in the place of another one", put(t, f, r), api.ErrRow)
		}
	}
}

// P13.2, P13.3: keys of no table are not there.
func TestKeysOfNoTable(t *testing.T) {
	for name, f := range goodForests() {
		for _, k := range oddKeys {
			refused(t, name+": Get", get(t, f, k), api.ErrNone)
			refused(t, name+": Take", take(t, f, k), api.ErrNone)
		}
	}
}

// R1: what has very many pages, rows, kids is seen through at once.
func TestVeryMany(t *testing.T) {
	many := make([]api.Content, 1<<20)
	many[0] = ids(7)
	if e := checkOf(t, api.Forest{Pages: many}); e != api.ErrForest {
		t.Fatalf("many pages: error %d", e)
	}
	for num := range 3 {
		f := forest(with(three(), pages{num: leaf(make([]api.Row, 1<<20)...)}))
		refused(t, "many rows", get(t, f, key(0, 7)), api.ErrForest)
		f = forest(with(three(), pages{num: inner(make([]api.Kid, 1<<20)...)}))
		refused(t, "many kids", put(t, f, rowOf(key(0, 7))), api.ErrForest)
	}
	refused(t, "a group of many rows", apply(t, forest(three()), sheets(sheet(1, leaf(make([]api.Row, 1<<20)...)))), api.ErrArg)
}
