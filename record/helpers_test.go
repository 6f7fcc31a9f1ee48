package record_test

import (
	"math"
	"reflect"
	"slices"
	"strings"
	"testing"

	"bursary/api"
	"bursary/record"
)

// kinds are all Kinds that there are.
var kinds = []int{api.RecBegin, api.RecChange, api.RecNested, api.RecDone, api.RecUndone, api.RecCommit, api.RecAbort, api.RecEnd, api.RecCkpt}

// noKinds are numbers of no Kind; cut to a byte, or to 32 bits, some would be of one.
var noKinds = []int{math.MinInt, -256, -255, -1, 0, 10, 11, 255, 256, 257, 258, 265, 1 << 32, 1<<32 + 1, 1<<32 + 9, math.MaxInt}

// key is short for a key.
func key(table int, id uint16) api.Key {
	return api.Key{Table: table, Id: id}
}

// at is short for a row.
func at(table int, id uint16, val int64, note string) api.Row {
	return api.Row{Key: key(table, id), Val: val, Note: note}
}

// on is short for a kid.
func on(table int, id uint16, page int) api.Kid {
	return api.Kid{Least: key(table, id), Page: page}
}

// free is a content of nothing.
var free = api.Content{Kind: api.KindFree}

// leaf is short for a leaf.
func leaf(rows ...api.Row) api.Content {
	return api.Content{Kind: api.KindLeaf, Rows: rows}
}

// inner is short for an inner content.
func inner(kids ...api.Kid) api.Content {
	return api.Content{Kind: api.KindInner, Kids: kids}
}

// long is a note of n bytes.
func long(n int) string {
	return strings.Repeat("n", n)
}

// fullLeaf is a leaf of as many bytes as a content may have; which one, hangs on val.
func fullLeaf(val int64) api.Content {
	return leaf(at(0, 0, val, long(8)), at(0, 65535, -val, long(8)), at(1, 7, val+1, long(8)), at(2, 65535, math.MinInt64, long(8)))
}

// contents are contents that may be, of all Kinds, of many sizes.
func contents() []api.Content {
	out := []api.Content{free, leaf(), inner(on(0, 0, 63), on(0, 1, 1)), inner(on(0, 0, 1), on(0, 7, 2), on(2, 65535, 63)), inner(on(0, 0, 4), on(0, 256, 3), on(1, 255, 2), on(2, 0, 1))}
	for n := range 9 {
		out = append(out, leaf(at(1, uint16(n), -1, long(n))), leaf(at(0, 258, math.MaxInt64, long(8)), at(2, 1, 0x0102030405060708, long(n))), leaf(at(0, 1, 1, long(8)), at(0, 2, 2, long(n)), at(0, 3, 3, "")))
	}
	return append(out, leaf(at(0, 0, 0, "\x00\xff")), fullLeaf(5))
}

// oddContents are contents that may not be.
func oddContents() map[string]api.Content {
	a, b := at(0, 1, 1, "a"), at(0, 2, 2, "b")
	return map[string]api.Content{
		"of the Kind 3":        {Kind: 3},
		"of the Kind -1":       {Kind: -1},
		"of the Kind 256":      {Kind: 256},
		"free, with a row":     {Rows: []api.Row{a}},
		"free, with kids":      {Kids: []api.Kid{on(0, 0, 1), on(0, 1, 2)}},
		"of five rows":         leaf(a, b, at(0, 3, 0, ""), at(0, 4, 0, ""), at(0, 5, 0, "")),
		"of rows that fall":    leaf(b, a),
		"of a row twice":       leaf(a, a),
		"of a row of no table": leaf(at(3, 0, 0, "")),
		"of a note too long":   leaf(at(0, 0, 0, long(9))),
		"a leaf with kids":     {Kind: api.KindLeaf, Kids: []api.Kid{on(0, 0, 1), on(0, 1, 2)}},
		"of one kid":           inner(on(0, 0, 1)),
		"of a page twice":      inner(on(0, 0, 1), on(0, 1, 1)),
		"of the page 0":        inner(on(0, 0, 1), on(0, 1, 0)),
	}
}

// image is short for an image.
func image(page int, before, after api.Content) api.Image {
	return api.Image{Page: page, Before: before, After: after}
}

// images are n images, from the page first on.
func images(first, n int) []api.Image {
	all := contents()
	var out []api.Image
	for i := range n {
		out = append(out, image(first+i, all[(3*i+n)%len(all)], all[(5*i+first)%len(all)]))
	}
	return out
}

// afters is images of which just what the pages hold counts.
func afters(l []api.Image) []api.Image {
	var out []api.Image
	for _, im := range l {
		out = append(out, image(im.Page, free, im.After))
	}
	return out
}

// The steps of each Kind.
func add(table int, id uint16, by int64) api.Step {
	return api.Step{Kind: api.StepAdd, Row: at(table, id, 0, ""), By: by}
}

func set(r api.Row) api.Step {
	return api.Step{Kind: api.StepSet, Row: r}
}

func put(r api.Row) api.Step {
	return api.Step{Kind: api.StepPut, Row: r}
}

func take(table int, id uint16) api.Step {
	return api.Step{Kind: api.StepTake, Row: at(table, id, 0, "")}
}

// steps are steps that may be, of all Kinds.
func steps() []api.Step {
	out := []api.Step{add(0, 0, 0), add(0, 3, -2), add(2, 65535, math.MinInt64), add(1, 258, math.MaxInt64), take(0, 0), take(1, 258), take(2, 65535)}
	for _, r := range []api.Row{{}, at(0, 3, -2, ""), at(1, 258, math.MinInt64, "ab"), at(2, 65535, math.MaxInt64, long(8)), at(0, 1, 255, "\x00\xff")} {
		out = append(out, set(r), put(r))
	}
	return out
}

// txns are n transactions of a checkpoint, with records below lsn.
func txns(n int, lsn uint64) []api.CkTxn {
	var out []api.CkTxn
	for i := range n {
		first := 1 + uint64(i)*7
		out = append(out, api.CkTxn{Txn: 1 + i*i, First: first, Last: lsn - 1 - uint64(i), Undo: uint64(i) * 3, State: api.TxnLive + i%3})
	}
	return out
}

// dirty are n pages of a checkpoint, with records below lsn.
func dirty(n int, lsn uint64) []api.CkPage {
	var out []api.CkPage
	for i := range n {
		out = append(out, api.CkPage{Page: api.MaxPages - n + i, Rec: lsn - 1 - uint64(i)})
	}
	return out
}

// The records of each Kind; those of which nothing counts besides, by head alone.
func head(kind int, lsn uint64, txn int, prev uint64) api.Rec {
	return api.Rec{Kind: kind, Lsn: lsn, Txn: txn, Prev: prev}
}

func change(lsn uint64, txn int, prev uint64, l ...api.Image) api.Rec {
	return api.Rec{Kind: api.RecChange, Lsn: lsn, Txn: txn, Prev: prev, Images: l}
}

func nested(lsn uint64, txn int, prev, next uint64) api.Rec {
	return api.Rec{Kind: api.RecNested, Lsn: lsn, Txn: txn, Prev: prev, Next: next}
}

func done(lsn uint64, txn int, prev, next uint64, l ...api.Step) api.Rec {
	return api.Rec{Kind: api.RecDone, Lsn: lsn, Txn: txn, Prev: prev, Next: next, Steps: l}
}

func undone(lsn uint64, txn int, prev, next uint64, l ...api.Image) api.Rec {
	return api.Rec{Kind: api.RecUndone, Lsn: lsn, Txn: txn, Prev: prev, Next: next, Images: l}
}

func ckpt(lsn uint64, next int, all []api.CkTxn, pages []api.CkPage) api.Rec {
	return api.Rec{Kind: api.RecCkpt, Lsn: lsn, NextTxn: next, Txns: all, Dirty: pages}
}

// some is a record of that Kind that may be, in the midst of all its bounds.
func some(kind int) api.Rec {
	switch kind {
	case api.RecBegin:
		return head(kind, 1000, 7, 0)
	case api.RecChange:
		return change(1000, 7, 500, image(3, leaf(at(0, 1, 1, "a")), fullLeaf(9)), image(8, free, leaf()), image(20, inner(on(0, 0, 3), on(0, 7, 5)), free))
	case api.RecNested:
		return nested(1000, 7, 500, 250)
	case api.RecDone:
		return done(1000, 7, 500, 250, add(1, 3, -2), put(at(2, 9, 4, "four")))
	case api.RecUndone:
		return undone(1000, 7, 500, 250, image(3, free, fullLeaf(9)), image(8, free, leaf()), image(20, free, free))
	case api.RecCkpt:
		return ckpt(1000, 70, []api.CkTxn{{Txn: 10, First: 100, Last: 300, Undo: 200, State: api.TxnBack}, {Txn: 20, First: 150, Last: 400, Undo: 170, State: api.TxnLive}, {Txn: 30, First: 7, Last: 7, Undo: 0, State: api.TxnDone}},
			[]api.CkPage{{Page: 5, Rec: 600}, {Page: 10, Rec: 7}, {Page: 40, Rec: 999}})
	}
	return head(kind, 1000, 7, 500)
}

// goodRecs are records that may be, of all Kinds.
func goodRecs() []api.Rec {
	var out []api.Rec
	for _, kind := range kinds {
		out = append(out, some(kind))
	}
	for _, txn := range []int{1, 7, 255, 256, 0x01020304, api.MaxTxn - 1, api.MaxTxn} {
		for _, lsn := range []uint64{2, 3, 255, 256, 0x0102030405, api.MaxLsn - 1, api.MaxLsn} {
			out = append(out, head(api.RecBegin, lsn-1, txn, 0), head(api.RecBegin, lsn, txn, 0))
			for _, kind := range []int{api.RecCommit, api.RecAbort, api.RecEnd} {
				out = append(out, head(kind, lsn, txn, 1), head(kind, lsn, txn, lsn-1))
			}
			out = append(out,
				change(lsn, txn, 1, image(0, free, free)), change(lsn, txn, lsn-1, images(63, 1)...),
				nested(lsn, txn, 1, 0), nested(lsn, txn, lsn-1, 0), nested(lsn, txn, lsn-1, lsn-2),
				done(lsn, txn, 1, 0, add(0, 0, 0)), done(lsn, txn, lsn-1, lsn-2, take(2, 9), add(0, 1, -1)),
				undone(lsn, txn, 1, 0), undone(lsn, txn, lsn-1, lsn-1, afters(images(62, 2))...), undone(lsn, txn, 1, lsn-1),
				ckpt(lsn, txn, nil, nil), ckpt(lsn-1, txn, nil, nil), ckpt(lsn, txn, nil, dirty(1, lsn)))
		}
	}
	for n := 1; n <= api.MaxImages; n++ {
		out = append(out, change(1000, 7, 9, images(n, n)...), undone(1000, 7, 9, 999, afters(images(64-n, n))...))
	}
	for _, c := range contents() {
		out = append(out, change(5, 1, 4, image(9, c, free)), change(5, 1, 4, image(9, free, c)), change(5, 1, 4, image(9, c, c)), undone(5, 1, 4, 4, image(9, free, c)))
	}
	for _, s := range steps() {
		out = append(out, done(9, 1, 8, 7, s))
		for _, other := range steps() {
			out = append(out, done(9, 1, 8, 7, s, other))
		}
	}
	for n := range api.MaxLive + 1 {
		out = append(out, ckpt(5000, api.MaxTxn, txns(n, 5000), dirty(n, 5000)))
	}
	for n := range api.MaxPages + 1 {
		out = append(out, ckpt(5000, 51, txns(n%9, 5000), dirty(n, 5000)))
	}
	return append(out,
		change(9, 1, 8, image(0, fullLeaf(1), fullLeaf(2)), image(1, fullLeaf(3), fullLeaf(4)), image(63, fullLeaf(5), fullLeaf(6))),
		ckpt(api.MaxLsn, api.MaxTxn, []api.CkTxn{{Txn: 1, First: 1, Last: 1, Undo: 1, State: api.TxnLive}, {Txn: api.MaxTxn - 1, First: api.MaxLsn - 1, Last: api.MaxLsn - 1, Undo: api.MaxLsn - 1, State: api.TxnDone}}, []api.CkPage{{Page: 0, Rec: 1}, {Page: 63, Rec: api.MaxLsn - 1}}),
		ckpt(2, 2, []api.CkTxn{{Txn: 1, First: 1, Last: 1, Undo: 0, State: api.TxnBack}}, []api.CkPage{{Page: 63, Rec: 1}}))
}

// plain is a record in which lists of nothing are nil.
func plain(r api.Rec) api.Rec {
	out := r
	out.Images, out.Steps, out.Txns, out.Dirty = none(r.Images), none(r.Steps), none(r.Txns), none(r.Dirty)
	for i, im := range out.Images {
		out.Images[i] = image(im.Page, plainContent(im.Before), plainContent(im.After))
	}
	return out
}

// plainContent is a content in which lists of nothing are nil.
func plainContent(c api.Content) api.Content {
	return api.Content{Kind: c.Kind, Rows: none(c.Rows), Kids: none(c.Kids)}
}

// none is a copy of a list, and nil of nothing.
func none[T any](l []T) []T {
	if len(l) == 0 {
		return nil
	}
	return slices.Clone(l)
}

// emptied is a record in which lists of nothing are not nil, and have room.
func emptied(r api.Rec) api.Rec {
	out := r
	out.Images, out.Steps, out.Txns, out.Dirty = notNil(r.Images), notNil(r.Steps), notNil(r.Txns), notNil(r.Dirty)
	for i, im := range out.Images {
		out.Images[i] = image(im.Page, emptiedContent(im.Before), emptiedContent(im.After))
	}
	return out
}

// emptiedContent is a content in which lists of nothing are not nil, and have room.
func emptiedContent(c api.Content) api.Content {
	return api.Content{Kind: c.Kind, Rows: notNil(c.Rows), Kids: notNil(c.Kids)}
}

// notNil is a copy of a list, not nil of nothing, with room.
func notNil[T any](l []T) []T {
	return append(make([]T, 0, len(l)+3), l...)
}

// alike says whether two records are the same, with nothing of the program's own.
func alike(a, b api.Rec) bool {
	return reflect.DeepEqual(plain(a), plain(b))
}

// alikeContent says whether two contents are the same, with nothing of the program's own.
func alikeContent(a, b api.Content) bool {
	return reflect.DeepEqual(plainContent(a), plainContent(b))
}

// expect holds an error against the one that is wanted.
func expect(t *testing.T, name string, got, want api.Errno) {
	t.Helper()
	if got != want {
		t.Fatalf("%s: error %d, want %d", name, got, want)
	}
}

// bytesOf asks Encode for the bytes of a record that may be.
func bytesOf(t *testing.T, r api.Rec) []byte {
	t.Helper()
	b, e := record.Encode(r)
	if e != api.OK {
		t.Fatalf("Encode(%v): error %d", r, e)
	}
	return b
}

// mustNotBe asks each call whether it says that a record may not be, and nothing else.
func mustNotBe(t *testing.T, name string, r api.Rec) {
	t.Helper()
	expect(t, name+": Check", record.Check(r), api.ErrRec)
	if b, e := record.Encode(r); e != api.ErrRec || len(b) != 0 {
		t.Fatalf("%s: Encode: % X, error %d", name, b, e)
	}
	if n, e := record.Cost(r); e != api.ErrRec || n != 0 {
		t.Fatalf("%s: Cost: %d, error %d", name, n, e)
	}
	if n, e := record.Reserve(r); e != api.ErrRec || n != 0 {
		t.Fatalf("%s: Reserve: %d, error %d", name, n, e)
	}
	if record.Undoable(r) {
		t.Fatalf("%s: Undoable", name)
	}
	for _, im := range r.Images {
		if c, there := record.Redoes(r, im.Page); there || !alikeContent(c, free) {
			t.Fatalf("%s: Redoes: %v, %t", name, c, there)
		}
	}
}

// mayBe asks whether a record may be.
func mayBe(t *testing.T, name string, r api.Rec) {
	t.Helper()
	if e := record.Check(r); e != api.OK {
		t.Fatalf("%s: Check: error %d of %+v", name, e, r)
	}
}

// dice are numbers that hang on how many were thrown alone.
type dice uint32

// throw is a number from 0 on and below n.
func (d *dice) throw(n int) int {
	*d = *d*1664525 + 1013904223
	return int(*d>>12) % n
}

// lsn is a number from least to most.
func (d *dice) lsn(least, most uint64) uint64 {
	return least + uint64(d.throw(1<<20))*uint64(d.throw(1<<20))%(most-least+1)
}

// rec is some record that may be, of whichever Kind.
func (d *dice) rec() api.Rec {
	kind, lsn, txn := kinds[d.throw(len(kinds))], d.lsn(2, api.MaxLsn), int(d.lsn(1, api.MaxTxn))
	prev := d.lsn(1, lsn-1)
	switch kind {
	case api.RecBegin:
		return head(kind, lsn, txn, 0)
	case api.RecChange:
		return change(lsn, txn, prev, d.images(1)...)
	case api.RecNested:
		return nested(lsn, txn, prev, d.lsn(0, prev-1))
	case api.RecDone:
		all := steps()
		return done(lsn, txn, prev, d.lsn(0, prev-1), slices.Repeat([]api.Step{all[d.throw(len(all))], all[d.throw(len(all))]}, 2)[:1+d.throw(2)]...)
	case api.RecUndone:
		return undone(lsn, txn, prev, d.lsn(0, lsn-1), afters(d.images(0))...)
	case api.RecCkpt:
		return d.ckpt(lsn)
	}
	return head(kind, lsn, txn, prev)
}

// images are some images, no fewer than least.
func (d *dice) images(least int) []api.Image {
	all := contents()
	var out []api.Image
	n := least + d.throw(api.MaxImages+1-least)
	for i := range n {
		page := i*api.MaxPages/n + d.throw(max(1, api.MaxPages/n-1))
		out = append(out, image(page, all[d.throw(len(all))], all[d.throw(len(all))]))
	}
	return out
}

// ckpt is some checkpoint.
func (d *dice) ckpt(lsn uint64) api.Rec {
	out := ckpt(lsn, 0, nil, nil)
	txn := 0
	for range d.throw(api.MaxLive + 1) {
		txn += 1 + d.throw(1000)
		last := d.lsn(1, lsn-1)
		out.Txns = append(out.Txns, api.CkTxn{Txn: txn, First: d.lsn(1, last), Last: last, Undo: d.lsn(0, last), State: api.TxnLive + d.throw(3)})
	}
	for page := range api.MaxPages {
		if d.throw(3) == 0 {
			out.Dirty = append(out.Dirty, api.CkPage{Page: page, Rec: d.lsn(1, lsn-1)})
		}
	}
	out.NextTxn = txn + 1 + d.throw(1000)
	return out
}
