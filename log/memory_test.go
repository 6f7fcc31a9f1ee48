package log_test

import (
	"reflect"
	"slices"
	"testing"

	"bursary/api"
	"bursary/log"
)

// mark stands in the room behind the ends of lists.
var mark = api.Rec{
	Images: []api.Image{{Page: -77}},
	Steps:  []api.Step{{Kind: -77}},
	Txns:   []api.CkTxn{{Txn: -77}},
	Dirty:  []api.CkPage{{Page: -77}},
}

// roomyList is a copy of a list, with marks in the room behind its end.
func roomyList[T any](l []T, mark T) []T {
	return slices.Concat(l, []T{mark, mark, mark})[:len(l)]
}

// roomyContent is a copy of a content with room behind the ends of its lists.
func roomyContent(c api.Content) api.Content {
	return api.Content{Kind: c.Kind, Rows: roomyList(c.Rows, at(-7, 7, -7, "mark")), Kids: roomyList(c.Kids, api.Kid{Page: -7})}
}

// roomy is a copy of a record with room behind the ends of all its lists.
func roomy(r api.Rec) api.Rec {
	out := r
	out.Images = roomyList(r.Images, mark.Images[0])
	for i, im := range out.Images {
		out.Images[i] = api.Image{Page: im.Page, Before: roomyContent(im.Before), After: roomyContent(im.After)}
	}
	out.Steps, out.Txns, out.Dirty = roomyList(r.Steps, mark.Steps[0]), roomyList(r.Txns, mark.Txns[0]), roomyList(r.Dirty, mark.Dirty[0])
	return out
}

// stretched is a roomy record with all that stands in the room behind the ends of its lists.
func stretched(r api.Rec) api.Rec {
	out := r
	out.Images = slices.Clone(r.Images[:cap(r.Images)])
	for i, im := range out.Images {
		out.Images[i] = api.Image{Page: im.Page, Before: stretchedContent(im.Before), After: stretchedContent(im.After)}
	}
	out.Steps, out.Txns, out.Dirty = r.Steps[:cap(r.Steps)], r.Txns[:cap(r.Txns)], r.Dirty[:cap(r.Dirty)]
	return out
}

// stretchedContent is a content with all that stands in the room behind the ends of its lists.
func stretchedContent(c api.Content) api.Content {
	return api.Content{Kind: c.Kind, Rows: c.Rows[:cap(c.Rows)], Kids: c.Kids[:cap(c.Kids)]}
}

// untouched asks whether a roomy record, and the room behind its lists, is as it was made.
func untouched(t *testing.T, in, want api.Rec) {
	t.Helper()
	if !reflect.DeepEqual(stretched(in), stretched(roomy(want))) {
		t.Fatalf("%+v is left of %+v", stretched(in), want)
	}
}

// spoil changes all that stands in a record's lists, and in the room behind their ends.
func spoil(r api.Rec) {
	for i, im := range r.Images {
		spoilContent(im.Before)
		spoilContent(im.After)
		r.Images[i] = api.Image{Page: -9}
	}
	spoilList(r.Images, api.Image{Page: -9})
	spoilList(r.Steps, api.Step{Kind: -9})
	spoilList(r.Txns, api.CkTxn{Txn: -9})
	spoilList(r.Dirty, api.CkPage{Page: -9})
}

// spoilContent changes all that stands in a content's lists, and in the room behind their ends.
func spoilContent(c api.Content) {
	spoilList(c.Rows, at(-9, 9, -9, "spoilt"))
	spoilList(c.Kids, api.Kid{Page: -9})
}

// spoilList puts x over a list, and over the room behind its end.
func spoilList[T any](l []T, x T) {
	l = l[:cap(l)]
	for i := range l {
		l[i] = x
	}
}

// R3: the record that Append is handed is neither changed nor kept, whether it is taken or refused.
func TestAppendKeepsNothing(t *testing.T) {
	k := format(t, 450)
	for i := range 40 {
		want := some(k.nextLsn(), i)
		in := roomy(want)
		k.append(t, in, 0)
		untouched(t, in, want)
		spoil(in)
		k.model.records[len(k.records)-1] = want
		tells(t, "behind a change of what was handed in", k.log, k.model)
		for _, reserved := range []int{-1, 400} {
			in = roomy(some(k.nextLsn(), i))
			k.log.Append(in, reserved)
			untouched(t, in, some(k.nextLsn(), i))
			in = roomy(want)
			expect(t, "Append of the same again", k.log.Append(in, 0), api.ErrArg)
			untouched(t, in, want)
		}
	}
	for _, want := range strangeRecs(k.nextLsn()) {
		in := roomy(want)
		expect(t, "Append", k.log.Append(in, 0), api.ErrRec)
		untouched(t, in, want)
	}
	k.flush(t, k.nextLsn()-1)
	k.open(t)
}

// R3: what Rec and Recs answer shares no memory with the log, nor with what is answered again, of the tail, of what is flushed, and of what was read.
func TestAnswersAreNewMemory(t *testing.T) {
	k := format(t, 450)
	k.fill(t, 20)
	for range 3 {
		all, again := k.log.Recs(0), k.log.Recs(0)
		var one []api.Rec
		for lsn := range k.nextLsn() {
			if r, e := k.log.Rec(lsn); e == api.OK {
				one = append(one, r)
			}
		}
		for _, r := range all {
			spoil(r)
		}
		spoilList(all, api.Rec{Kind: -9})
		tells(t, "behind a change of what was answered", k.log, k.model)
		if !slices.EqualFunc(again, k.records, alike) || !slices.EqualFunc(one, k.records, alike) {
			t.Fatal("answers share memory")
		}
		for _, r := range one {
			spoil(r)
		}
		tells(t, "behind a change of single ones", k.log, k.model)
		k.flush(t, 10)
		k.truncate(t, k.base+2, 3, 4)
		k.open(t)
	}
}

// R3: no two lists of one answer share memory.
func TestListsOfOneAnswer(t *testing.T) {
	k := format(t, 450)
	k.fill(t, 20)
	all := k.log.Recs(0)
	for i, r := range all {
		for j, im := range r.Images {
			spoilContent(im.Before)
			if !reflect.DeepEqual(plainContent(im.After), plainContent(k.records[i].Images[j].After)) {
				t.Fatalf("the record %d, page %d: its contents share memory", r.Lsn, im.Page)
			}
			spoilContent(im.After)
		}
		spoil(r)
		for next := i + 1; next < len(all); next++ {
			if !alike(all[next], k.records[next]) {
				t.Fatalf("the records %d and %d share memory", r.Lsn, all[next].Lsn)
			}
		}
	}
}

// R3: beside what counts an answer has nothing: lists of nothing are nil or empty, whichever were handed in.
func TestAnswersHaveNothingElse(t *testing.T) {
	k := format(t, 450)
	k.append(t, begin(1), 0)
	r := begin(2)
	r.Images, r.Steps, r.Txns, r.Dirty = []api.Image{}, make([]api.Step, 0, 5), []api.CkTxn{}, []api.CkPage{}
	k.append(t, r, 0)
	got, e := k.log.Rec(2)
	if e != api.OK || len(got.Images)+len(got.Steps)+len(got.Txns)+len(got.Dirty) != 0 || got.Lsn != 2 || got.Kind != api.RecBegin || got.Txn != 7 {
		t.Fatalf("%+v, error %d", got, e)
	}
}

// R5: the same calls are answered the same, and leave the same sectors; logs on disks of their own have nothing to do with one another.
func TestSameCallsSameAnswers(t *testing.T) {
	a, b, other := busy(t), busy(t), busy(t)
	for i := range 30 {
		for _, k := range []*kept{a, b} {
			k.disk.Arm(i % 9)
			k.disk.Fail(i % 7)
			k.log.Append(some(k.log.Next(), i), i)
			k.log.Flush(k.log.Next() - 1 - uint64(i%2))
			k.log.Truncate(k.log.Flushed()-uint64(i%3), k.log.Flushed(), 1+i)
			k.disk.Crash([]bool{i%2 == 0, i%3 == 0})
		}
		if !slices.Equal(said(a.disk), said(b.disk)) || a.disk.Ops() != b.disk.Ops() || a.log.Broken() != b.log.Broken() || !slices.EqualFunc(a.log.Recs(0), b.log.Recs(0), alike) {
			t.Fatal("the same calls are answered otherwise")
		}
		tells(t, "another log", other.log, other.model)
		if a.log.Broken() {
			a.log, _ = log.Open(a.disk)
			b.log, _ = log.Open(b.disk)
		}
	}
	is(t, "another log", other.disk, other.log, other.model)
}
