package record_test

import (
	"fmt"
	"math"
	"slices"
	"testing"

	"bursary/api"
	"bursary/record"
)

// span is a number of a record, from which one to which one it may be while the rest is as in some.
type span struct {
	name        string
	set         func(r *api.Rec, x uint64)
	least, most uint64
}

// spans are all numbers that records of that Kind have. What is an int there is handed in as such: below 0 is a great number here.
func spans(kind int) []span {
	out := []span{{"Lsn", func(r *api.Rec, x uint64) { r.Lsn = x }, 501, api.MaxLsn}}
	if kind == api.RecBegin {
		out[0].least = 1
	}
	if kind == api.RecCkpt {
		out[0].least = 1000 // of the last page's Rec
		return append(out, ckptSpans()...)
	}
	out = append(out, span{"Txn", func(r *api.Rec, x uint64) { r.Txn = int(x) }, 1, api.MaxTxn})
	prev := span{"Prev", func(r *api.Rec, x uint64) { r.Prev = x }, 1, 999}
	next := span{"Next", func(r *api.Rec, x uint64) { r.Next = x }, 0, 499}
	switch kind {
	case api.RecBegin:
		return out
	case api.RecNested, api.RecDone:
		prev.least = 251 // above Next
		out = append(out, next)
	case api.RecUndone:
		next.most = 999
		out = append(out, next)
	}
	return append(out, prev)
}

// ckptSpans are those that checkpoints have besides.
func ckptSpans() []span {
	return []span{
		{"NextTxn", func(r *api.Rec, x uint64) { r.NextTxn = int(x) }, 31, api.MaxTxn},
		{"the first Txn", func(r *api.Rec, x uint64) { r.Txns[0].Txn = int(x) }, 1, 19},
		{"the second Txn", func(r *api.Rec, x uint64) { r.Txns[1].Txn = int(x) }, 11, 29},
		{"the last Txn", func(r *api.Rec, x uint64) { r.Txns[2].Txn = int(x) }, 21, 69},
		{"the first First", func(r *api.Rec, x uint64) { r.Txns[0].First = x }, 1, 300},
		{"the last First", func(r *api.Rec, x uint64) { r.Txns[2].First = x }, 1, 7},
		{"the first Last", func(r *api.Rec, x uint64) { r.Txns[0].Last = x }, 200, 999},
		{"the second Last", func(r *api.Rec, x uint64) { r.Txns[1].Last = x }, 170, 999},
		{"the last Last", func(r *api.Rec, x uint64) { r.Txns[2].Last = x }, 7, 999},
		{"the first Undo", func(r *api.Rec, x uint64) { r.Txns[0].Undo = x }, 0, 300},
		{"the last Undo", func(r *api.Rec, x uint64) { r.Txns[2].Undo = x }, 0, 7},
		{"the first State", func(r *api.Rec, x uint64) { r.Txns[0].State = int(x) }, api.TxnLive, api.TxnDone},
		{"the last State", func(r *api.Rec, x uint64) { r.Txns[2].State = int(x) }, 1, 3},
		{"the first Page", func(r *api.Rec, x uint64) { r.Dirty[0].Page = int(x) }, 0, 9},
		{"the second Page", func(r *api.Rec, x uint64) { r.Dirty[1].Page = int(x) }, 6, 39},
		{"the last Page", func(r *api.Rec, x uint64) { r.Dirty[2].Page = int(x) }, 11, 63},
		{"the first Rec", func(r *api.Rec, x uint64) { r.Dirty[0].Rec = x }, 1, 999},
		{"the last Rec", func(r *api.Rec, x uint64) { r.Dirty[2].Rec = x }, 1, 999},
	}
}

// P12.1: each number of a record at its least and its greatest, and one past either, and far past.
func TestCheckNumbers(t *testing.T) {
	for _, kind := range kinds {
		mayBe(t, fmt.Sprint("some of the Kind ", kind), some(kind))
		for _, s := range spans(kind) {
			for _, x := range []uint64{s.least, s.least + 1, s.most - 1, s.most} {
				r := some(kind)
				s.set(&r, x)
				mayBe(t, fmt.Sprint("the Kind ", kind, ", ", s.name, " ", x), r)
			}
			for _, x := range []uint64{0, s.least - 1, s.most + 1, s.least + 256, s.least + 1<<32, s.least + 1<<40 + 1, 1 << 31, 1 << 32, math.MaxInt64, 1 << 63, s.least + 1<<63, math.MaxUint64} {
				if x >= s.least && x <= s.most {
					continue
				}
				r := some(kind)
				s.set(&r, x)
				mustNotBe(t, fmt.Sprint("the Kind ", kind, ", ", s.name, " ", x), r)
			}
		}
	}
}

// P12.1: numbers that bound one another, all of them small: each is held against the words.
func TestCheckBounds(t *testing.T) {
	for lsn := range uint64(6) {
		for prev := range uint64(6) {
			for next := range uint64(7) {
				chained := prev > 0 && prev < lsn
				for name, q := range map[string]struct {
					r    api.Rec
					want bool
				}{
					"Begin":  {api.Rec{Kind: api.RecBegin, Lsn: lsn, Txn: 1, Prev: prev, Next: next}, lsn > 0 && prev == 0 && next == 0},
					"Change": {api.Rec{Kind: api.RecChange, Lsn: lsn, Txn: 1, Prev: prev, Next: next, Images: images(0, 1)}, chained && next == 0},
					"Nested": {nested(lsn, 1, prev, next), chained && next < prev},
					"Done":   {done(lsn, 1, prev, next, take(0, 0)), chained && next < prev},
					"Undone": {undone(lsn, 1, prev, next), chained && next < lsn},
					"Commit": {api.Rec{Kind: api.RecCommit, Lsn: lsn, Txn: 1, Prev: prev, Next: next}, chained && next == 0},
					"Ckpt":   {api.Rec{Kind: api.RecCkpt, Lsn: lsn, Prev: prev, Next: next, NextTxn: 1}, lsn > 0 && prev == 0 && next == 0},
					"First, Last, Undo": {ckpt(5, 2, []api.CkTxn{{Txn: 1, First: lsn, Last: prev, Undo: next, State: 1}}, nil),
						lsn >= 1 && lsn <= prev && prev <= 4 && next <= prev},
				} {
					if q.want {
						mayBe(t, name, q.r)
						continue
					}
					mustNotBe(t, fmt.Sprint(name, lsn, prev, next), q.r)
				}
			}
		}
	}
}

// P12.1: records that may be, of all Kinds, and of Kinds that there are not.
func TestCheckKinds(t *testing.T) {
	for _, r := range goodRecs() {
		mayBe(t, "a good one", r)
	}
	d := dice(1)
	for range 3000 {
		mayBe(t, "some", d.rec())
	}
	for _, kind := range noKinds {
		for _, like := range kinds {
			r := some(like)
			r.Kind = kind
			mustNotBe(t, fmt.Sprint("the Kind ", kind, " like ", like), r)
		}
		for _, r := range []api.Rec{{Kind: kind}, {Kind: kind, Lsn: 1}, {Kind: kind, Lsn: 1, Txn: 1}} {
			mustNotBe(t, fmt.Sprint("the Kind ", kind), r)
		}
	}
}

// extra is something that records of some Kinds may have, and those of others may not.
type extra struct {
	name string
	of   []int
	do   func(r *api.Rec)
}

// extras are one or two of each field.
func extras() []extra {
	var out []extra
	say := func(name string, of []int, do func(r *api.Rec)) { out = append(out, extra{name, of, do}) }
	owned := kinds[:8]
	say("Txn", owned, func(r *api.Rec) { r.Txn = 1 })
	say("Txn below 0", owned, func(r *api.Rec) { r.Txn = -1 })
	say("Prev", kinds[1:8], func(r *api.Rec) { r.Prev = 1 })
	nexts := []int{api.RecNested, api.RecDone, api.RecUndone}
	say("Next", nexts, func(r *api.Rec) { r.Next = 1 })
	say("a great Next", nexts, func(r *api.Rec) { r.Next = math.MaxUint64 })
	imaged := []int{api.RecChange, api.RecUndone}
	say("an image", imaged, func(r *api.Rec) { r.Images = []api.Image{image(3, free, leaf())} })
	say("a zero image", imaged, func(r *api.Rec) { r.Images = make([]api.Image, 1) })
	say("a step", []int{api.RecDone}, func(r *api.Rec) { r.Steps = []api.Step{take(0, 1)} })
	say("a zero step", []int{api.RecDone}, func(r *api.Rec) { r.Steps = make([]api.Step, 1) })
	check := []int{api.RecCkpt}
	say("NextTxn", check, func(r *api.Rec) { r.NextTxn = 71 })
	say("NextTxn below 0", check, func(r *api.Rec) { r.NextTxn = -1 })
	say("a transaction", check, func(r *api.Rec) { r.Txns = []api.CkTxn{{Txn: 1, First: 1, Last: 1, State: 1}} })
	say("a zero transaction", check, func(r *api.Rec) { r.Txns = make([]api.CkTxn, 1) })
	say("a page", check, func(r *api.Rec) { r.Dirty = []api.CkPage{{Page: 1, Rec: 1}} })
	say("a zero page", check, func(r *api.Rec) { r.Dirty = make([]api.CkPage, 1) })
	return out
}

// P12.1: what a Kind doesn't have must be zero.
func TestCheckWhatAKindLacks(t *testing.T) {
	n := 0
	for _, kind := range kinds {
		for _, x := range extras() {
			if slices.Contains(x.of, kind) {
				continue
			}
			r := some(kind)
			x.do(&r)
			mustNotBe(t, fmt.Sprint("the Kind ", kind, " with ", x.name), r)
			n++
		}
	}
	if n != 2*1+2+2*6+2*7+2*8+6*8 {
		t.Fatalf("%d were asked", n)
	}
}

// P12.1: of lists nothing is nothing, nil or not.
func TestCheckEmptyLists(t *testing.T) {
	for _, r := range goodRecs() {
		mayBe(t, "with empty lists", emptied(r))
		if e := record.Check(emptied(api.Rec{Kind: r.Kind + 9})); e != api.ErrRec {
			t.Fatalf("a record of empty lists alone: error %d", e)
		}
	}
}

// P12.1: images: none, MaxImages of them and one more; pages that may not be, that don't rise, or stand twice.
func TestCheckImages(t *testing.T) {
	mustNotBe(t, "a Change of nothing", change(9, 1, 8))
	mustNotBe(t, "a Change of an empty list", change(9, 1, 8, []api.Image{}...))
	mayBe(t, "an Undone of nothing", undone(9, 1, 8, 7))
	mayBe(t, "an Undone of an empty list", undone(9, 1, 8, 7, []api.Image{}...))
	for _, first := range []int{0, 1, 30, 48} {
		mayBe(t, "MaxImages", change(9, 1, 8, images(first, api.MaxImages)...))
		mayBe(t, "MaxImages", undone(9, 1, 8, 7, afters(images(first, api.MaxImages))...))
	}
	for _, n := range []int{17, 18, 40, 63} {
		mustNotBe(t, fmt.Sprint(n, " images"), change(9, 1, 8, images(0, n)...))
		mustNotBe(t, fmt.Sprint(n, " images"), undone(9, 1, 8, 7, afters(images(1, n))...))
	}
	mustNotBe(t, "more images than stand in a byte", undone(9, 1, 8, 7, slices.Repeat(afters(images(0, 1)), 257)...))
	for _, pages := range [][]int{{-1}, {64}, {65}, {256}, {257}, {-256}, {1 << 32}, {math.MinInt}, {math.MaxInt}, {0, 0}, {5, 5}, {63, 63}, {1, 0}, {63, 0}, {0, 64}, {-1, 0}, {0, -1}, {1, 2, 2}, {1, 2, 1}, {1, 1, 2}, {3, 2, 4}, {3, 4, 64}, {2, 1 << 32}, {2, 1<<32 + 3}, {0, 256, 257}} {
		var l []api.Image
		for _, page := range pages {
			l = append(l, image(page, free, leaf()))
		}
		mustNotBe(t, fmt.Sprint("a Change of ", pages), change(9, 1, 8, l...))
		mustNotBe(t, fmt.Sprint("an Undone of ", pages), undone(9, 1, 8, 7, l...))
		mustNotBe(t, fmt.Sprint("a Ckpt of ", pages), ckpt(9, 1, nil, dirtyOf(pages)))
	}
	for _, pages := range [][]int{{0}, {63}, {0, 1}, {0, 63}, {62, 63}, {0, 1, 2, 3}, {7, 9, 60}} {
		var l []api.Image
		for _, page := range pages {
			l = append(l, image(page, free, leaf()))
		}
		mayBe(t, fmt.Sprint("a Change of ", pages), change(9, 1, 8, l...))
		mayBe(t, fmt.Sprint("an Undone of ", pages), undone(9, 1, 8, 7, l...))
		mayBe(t, fmt.Sprint("a Ckpt of ", pages), ckpt(9, 1, nil, dirtyOf(pages)))
	}
}

// dirtyOf are these pages, changed by the record 1.
func dirtyOf(pages []int) []api.CkPage {
	var out []api.CkPage
	for _, page := range pages {
		out = append(out, api.CkPage{Page: page, Rec: 1})
	}
	return out
}

// P12.1: contents that may not be, at each place; and what pages held, which an Undone doesn't say.
func TestCheckContents(t *testing.T) {
	for name, c := range oddContents() {
		for i := range 3 {
			l := images(5, 3)
			l[i].Before = c
			mustNotBe(t, "a Before "+name, change(9, 1, 8, l...))
			l = images(5, 3)
			l[i].After = c
			mustNotBe(t, "an After "+name, change(9, 1, 8, l...))
			l = afters(images(5, 3))
			l[i].After = c
			mustNotBe(t, "an After of an Undone "+name, undone(9, 1, 8, 7, l...))
			l = afters(images(5, 3))
			l[i].Before = c
			mustNotBe(t, "a Before of an Undone "+name, undone(9, 1, 8, 7, l...))
		}
	}
	for _, c := range contents() {
		for i := range 3 {
			l := images(5, 3)
			l[i].Before, l[i].After = c, c
			mayBe(t, "a Change", change(9, 1, 8, l...))
			l = afters(l)
			mayBe(t, "an Undone", undone(9, 1, 8, 7, l...))
			l[i].Before = c
			if alikeContent(c, free) {
				mayBe(t, "an Undone of a free Before", undone(9, 1, 8, 7, l...))
				continue
			}
			mustNotBe(t, fmt.Sprint("an Undone with the Before ", c), undone(9, 1, 8, 7, l...))
		}
	}
	l := []api.Image{image(3, api.Content{Rows: []api.Row{}, Kids: []api.Kid{}}, free)}
	mayBe(t, "a Before of empty lists", undone(9, 1, 8, 7, l...))
}

// P12.1: one step, MaxSteps of them, none and one more.
func TestCheckSteps(t *testing.T) {
	mustNotBe(t, "no step", done(9, 1, 8, 7))
	mustNotBe(t, "an empty list", done(9, 1, 8, 7, []api.Step{}...))
	for _, s := range steps() {
		mayBe(t, "one", done(9, 1, 8, 7, s))
		mayBe(t, "that twice", done(9, 1, 8, 7, s, s))
		mustNotBe(t, "that three times", done(9, 1, 8, 7, s, s, s))
		mustNotBe(t, "that 257 times", done(9, 1, 8, 7, slices.Repeat([]api.Step{s}, 257)...))
	}
	for name, s := range oddSteps() {
		mustNotBe(t, name, done(9, 1, 8, 7, s))
		mustNotBe(t, name+", first", done(9, 1, 8, 7, s, take(0, 1)))
		mustNotBe(t, name+", last", done(9, 1, 8, 7, take(0, 1), s))
	}
}

// oddSteps are steps that may not be, each for one sentence alone.
func oddSteps() map[string]api.Step {
	out := map[string]api.Step{
		"a zero step":         {},
		"a Set with By":       {Kind: api.StepSet, Row: at(0, 1, 2, "a"), By: 1},
		"a Put with By":       {Kind: api.StepPut, Row: at(0, 1, 2, "a"), By: -1},
		"a Take with By":      {Kind: api.StepTake, Row: at(0, 1, 0, ""), By: 1},
		"a Take with Val":     {Kind: api.StepTake, Row: at(0, 1, 1, "")},
		"a Take with a Note":  {Kind: api.StepTake, Row: at(0, 1, 0, "a")},
		"an Add with Val":     {Kind: api.StepAdd, Row: at(0, 1, -1, ""), By: 3},
		"an Add with a Note":  {Kind: api.StepAdd, Row: at(0, 1, 0, "\x00"), By: 3},
		"a Set, Note of nine": set(at(0, 1, 2, long(9))),
		"a Put, Note of nine": put(at(0, 1, 2, long(9))),
		"a Set, a long Note":  set(at(0, 1, 2, long(256))),
		"a Take, a long Note": {Kind: api.StepTake, Row: at(0, 1, 0, long(256))},
	}
	for _, table := range []int{math.MinInt, -256, -1, 3, 4, 255, 256, 257, 1 << 32, math.MaxInt} {
		out[fmt.Sprint("an Add of the table ", table)] = add(table, 1, 1)
		out[fmt.Sprint("a Set of the table ", table)] = set(at(table, 1, 1, ""))
		out[fmt.Sprint("a Put of the table ", table)] = put(at(table, 1, 1, ""))
		out[fmt.Sprint("a Take of the table ", table)] = take(table, 1)
	}
	for _, kind := range []int{math.MinInt, -255, -1, 0, 5, 6, 255, 256, 257, 258, 260, 1<<32 + 1, math.MaxInt} {
		out[fmt.Sprint("of the Kind ", kind, ", a key")] = api.Step{Kind: kind, Row: at(0, 1, 0, "")}
		out[fmt.Sprint("of the Kind ", kind, ", a row")] = api.Step{Kind: kind, Row: at(0, 1, 5, "a")}
		out[fmt.Sprint("of the Kind ", kind, ", By")] = api.Step{Kind: kind, Row: at(0, 1, 0, ""), By: 7}
	}
	return out
}

// P12.1: checkpoints of no transactions, of MaxLive and of one more; out of order; of States that there are not.
func TestCheckCheckpoints(t *testing.T) {
	mayBe(t, "nothing", ckpt(1, 1, nil, nil))
	for n := range api.MaxLive + 1 {
		for _, state := range []int{api.TxnLive, api.TxnBack, api.TxnDone} {
			l := txns(n, 500)
			for i := range l {
				l[i].State = state
			}
			mayBe(t, fmt.Sprint(n, " transactions of the State ", state), ckpt(500, 200, l, nil))
		}
	}
	for _, n := range []int{9, 10, 14} {
		mustNotBe(t, fmt.Sprint(n, " transactions"), ckpt(500, 200, txns(n, 500), nil))
	}
	for i := range api.MaxLive - 1 {
		l := txns(api.MaxLive, 500)
		l[i], l[i+1] = l[i+1], l[i]
		mustNotBe(t, "two out of order", ckpt(500, 200, l, nil))
		l[i], l[i+1] = l[i+1], l[i]
		l[i+1].Txn = l[i].Txn
		mustNotBe(t, "one twice", ckpt(500, 200, l, nil))
	}
	for _, state := range []int{math.MinInt, -1, 0, 4, 255, 256, 257, 1<<32 + 1, math.MaxInt} {
		for i := range 3 {
			l := txns(3, 500)
			l[i].State = state
			mustNotBe(t, fmt.Sprint("the State ", state), ckpt(500, 200, l, nil))
		}
	}
	mayBe(t, "all pages", ckpt(500, 1, nil, dirty(api.MaxPages, 500)))
	mustNotBe(t, "a page more", ckpt(500, 1, nil, append(dirty(api.MaxPages, 500), api.CkPage{Page: 64, Rec: 1})))
	mustNotBe(t, "all pages twice", ckpt(500, 1, nil, slices.Repeat(dirty(api.MaxPages, 500), 2)))
	for i := range api.MaxPages - 1 {
		l := dirty(api.MaxPages, 500)
		l[i], l[i+1] = l[i+1], l[i]
		mustNotBe(t, "two pages out of order", ckpt(500, 1, nil, l))
	}
	mustNotBe(t, "of the first record", ckpt(1, 2, []api.CkTxn{{Txn: 1, First: 1, Last: 1, State: 1}}, nil))
	mustNotBe(t, "of a page of the first record", ckpt(1, 2, nil, []api.CkPage{{Page: 1, Rec: 1}}))
	mustNotBe(t, "of one whose Txn is NextTxn", ckpt(9, 3, []api.CkTxn{{Txn: 3, First: 1, Last: 1, State: 1}}, nil))
	expect(t, "of one below NextTxn", record.Check(ckpt(9, 4, []api.CkTxn{{Txn: 3, First: 1, Last: 1, State: 1}}, nil)), api.OK)
}
