package record_test

import (
	"bytes"
	"slices"
	"testing"

	"bursary/api"
	"bursary/record"
)

// written are records, and their bytes, written out.
func written() []struct {
	name string
	r    api.Rec
	want []byte
} {
	head := func(kind, lsn, txn, prev byte) []byte {
		return []byte{kind, 0, 0, 0, 0, 0, 0, 0, lsn, 0, 0, 0, txn, 0, 0, 0, 0, 0, 0, 0, prev}
	}
	eight := func(x byte) []byte { return []byte{0, 0, 0, 0, 0, 0, 0, x} }
	return []struct {
		name string
		r    api.Rec
		want []byte
	}{
		{"Begin", api.Rec{Kind: api.RecBegin, Lsn: 1, Txn: 7}, head(1, 1, 7, 0)},
		{"Commit", api.Rec{Kind: api.RecCommit, Lsn: 5, Txn: 7, Prev: 4}, head(6, 5, 7, 4)},
		{"Abort", api.Rec{Kind: api.RecAbort, Lsn: 5, Txn: 7, Prev: 3}, head(7, 5, 7, 3)},
		{"End of the greatest numbers", api.Rec{Kind: api.RecEnd, Lsn: api.MaxLsn, Txn: api.MaxTxn, Prev: api.MaxLsn - 1},
			[]byte{8, 0, 0, 1, 0, 0, 0, 0, 0, 0x40, 0, 0, 0, 0, 0, 0, 0xFF, 0xFF, 0xFF, 0xFF, 0xFF}},
		{"Begin of numbers of unlike digits", api.Rec{Kind: api.RecBegin, Lsn: 0x0102030405, Txn: 0x06070809},
			[]byte{1, 0, 0, 0, 1, 2, 3, 4, 5, 6, 7, 8, 9, 0, 0, 0, 0, 0, 0, 0, 0}},
		{"Nested", nested(4, 7, 3, 1), slices.Concat(head(3, 4, 7, 3), eight(1))},
		{"Change", change(6, 7, 5, image(2, free, leaf(at(1, 258, -1, "ab"))), image(63, inner(on(0, 0, 3), on(0, 7, 5)), leaf())),
			slices.Concat(head(2, 6, 7, 5), []byte{2, 2, 0, 1, 1, 1, 1, 2}, bytes.Repeat([]byte{255}, 8), []byte{2, 'a', 'b', 63, 2, 2, 0, 0, 0, 3, 0, 0, 7, 5, 1, 0})},
		{"Undone", undone(8, 7, 6, 5, image(2, free, leaf()), image(63, free, free)), slices.Concat(head(5, 8, 7, 6), eight(5), []byte{2, 2, 1, 0, 63, 0})},
		{"Undone of nothing", undone(8, 7, 6, 0), slices.Concat(head(5, 8, 7, 6), eight(0), []byte{0})},
		{"Done by an Add", done(5, 7, 4, 1, add(0, 3, -2)), slices.Concat(head(4, 5, 7, 4), eight(1), []byte{1, 1, 0, 0, 3, 255, 255, 255, 255, 255, 255, 255, 254})},
		{"Done by a Set and a Take", done(5, 7, 4, 0, set(at(2, 257, 9, "x")), take(1, 0x1234)),
			slices.Concat(head(4, 5, 7, 4), eight(0), []byte{2, 2, 2, 1, 1}, eight(9), []byte{1, 'x', 4, 1, 0x12, 0x34})},
		{"Done by a Put", done(5, 7, 4, 3, put(at(0, 1, 1, ""))), slices.Concat(head(4, 5, 7, 4), eight(3), []byte{1, 3, 0, 0, 1}, eight(1), []byte{0})},
		{"Ckpt of nothing", ckpt(1, 1, nil, nil), slices.Concat(head(9, 1, 0, 0), []byte{0, 0, 0, 1, 0, 0})},
		{"Ckpt", ckpt(9, 0x0A0B, []api.CkTxn{{Txn: 0x0102, First: 3, Last: 8, Undo: 4, State: 2}, {Txn: 0x0103, First: 5, Last: 7, Undo: 0, State: 3}}, []api.CkPage{{Page: 0, Rec: 6}, {Page: 63, Rec: 1}}),
			slices.Concat(head(9, 9, 0, 0), []byte{0, 0, 0x0A, 0x0B, 2},
				[]byte{0, 0, 1, 2}, eight(3), eight(8), eight(4), []byte{2},
				[]byte{0, 0, 1, 3}, eight(5), eight(7), eight(0), []byte{3},
				[]byte{2, 0}, eight(6), []byte{63}, eight(1))},
	}
}

// P12.2: some records of each Kind, written out, and read.
func TestWrittenOut(t *testing.T) {
	for _, q := range written() {
		if b := bytesOf(t, q.r); !bytes.Equal(b, q.want) {
			t.Fatalf("%s: % X, want % X", q.name, b, q.want)
		}
		if r, e := record.Decode(q.want); e != api.OK || !alike(r, q.r) {
			t.Fatalf("%s: Decode: %+v, error %d", q.name, r, e)
		}
	}
}

// P12.2: a record's bytes, part by part, however its lists of nothing stand.
func TestEncode(t *testing.T) {
	d := dice(12)
	all := goodRecs()
	for range 3000 {
		all = append(all, d.rec())
	}
	met := map[int]int{}
	longest := 0
	for _, r := range all {
		want := laid(r)
		met[r.Kind]++
		longest = max(longest, len(want))
		if b := bytesOf(t, r); !bytes.Equal(b, want) {
			t.Fatalf("%+v: % X, want % X", r, b, want)
		}
		if b := bytesOf(t, emptied(r)); !bytes.Equal(b, want) {
			t.Fatalf("%#v: % X, want % X", r, b, want)
		}
	}
	for _, kind := range kinds {
		if met[kind] < 100 {
			t.Fatalf("%d of the Kind %d were met", met[kind], kind)
		}
	}
	var full []api.Image
	for page := range api.MaxImages {
		full = append(full, image(page, fullLeaf(1), fullLeaf(2)))
	}
	if n := len(bytesOf(t, change(9, 1, 8, full...))); n != 22+16*(1+2*api.MaxContent) || n > api.MaxEntry || n < longest {
		t.Fatalf("the longest has %d bytes", n)
	}
}
