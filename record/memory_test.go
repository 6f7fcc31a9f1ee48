package record_test

import (
	"bytes"
	"fmt"
	"reflect"
	"slices"
	"testing"

	"bursary/api"
	"bursary/record"
)

// margin is how many parts stand in the room behind the end of a roomy list.
const margin = 5

// mark stands in the room behind the ends of roomy lists.
var mark = api.Rec{
	Images: []api.Image{{Page: -77, Before: markContent, After: markContent}},
	Steps:  []api.Step{{Kind: -77, Row: at(-7, 7, -7, "mark"), By: -77}},
	Txns:   []api.CkTxn{{Txn: -77, First: 77, Last: 78, Undo: 79, State: -7}},
	Dirty:  []api.CkPage{{Page: -77, Rec: 77}},
}

// markContent stands in marks, and its row, its kid in the room behind rows, kids.
var markContent = api.Content{Kind: -7, Rows: []api.Row{at(-7, 7, -7, "mark")}, Kids: []api.Kid{on(-7, 7, -7)}}

// roomyList is a copy of a list, with marks in the room behind its end.
func roomyList[T any](l []T, mark T) []T {
	return slices.Concat(l, slices.Repeat([]T{mark}, margin))[:len(l)]
}

// roomyContent is a copy of a content with room behind the ends of its lists.
func roomyContent(c api.Content) api.Content {
	return api.Content{Kind: c.Kind, Rows: roomyList(c.Rows, markContent.Rows[0]), Kids: roomyList(c.Kids, markContent.Kids[0])}
}

// roomy is a copy of a record with room behind the ends of all its lists.
func roomy(r api.Rec) api.Rec {
	out := r
	out.Images = roomyList(r.Images, mark.Images[0])
	for i, im := range out.Images {
		out.Images[i] = image(im.Page, roomyContent(im.Before), roomyContent(im.After))
	}
	out.Steps, out.Txns, out.Dirty = roomyList(r.Steps, mark.Steps[0]), roomyList(r.Txns, mark.Txns[0]), roomyList(r.Dirty, mark.Dirty[0])
	return out
}

// stretched is a record with all that stands in the room behind the ends of its lists.
func stretched(r api.Rec) api.Rec {
	out := r
	out.Images = slices.Clone(r.Images[:cap(r.Images)])
	for i, im := range out.Images {
		out.Images[i] = image(im.Page, stretchedContent(im.Before), stretchedContent(im.After))
	}
	out.Steps, out.Txns, out.Dirty = r.Steps[:cap(r.Steps)], r.Txns[:cap(r.Txns)], r.Dirty[:cap(r.Dirty)]
	return out
}

// stretchedContent is a content with all that stands in the room behind the ends of its lists.
func stretchedContent(c api.Content) api.Content {
	return api.Content{Kind: c.Kind, Rows: c.Rows[:cap(c.Rows)], Kids: c.Kids[:cap(c.Kids)]}
}

// checkUntouched asks whether a roomy record, and the room behind its lists, is as it was made.
func checkUntouched(t *testing.T, in, want api.Rec) {
	t.Helper()
	if !reflect.DeepEqual(stretched(in), stretched(roomy(want))) {
		t.Fatalf("%+v is left of %+v", stretched(in), want)
	}
}

// overwriteContent puts what may not be over a content's lists, and over the room behind their ends.
func overwriteContent(c api.Content) {
	rows, kids := c.Rows[:cap(c.Rows)], c.Kids[:cap(c.Kids)]
	for i := range rows {
		rows[i] = at(-9, 9, -9, "overwritten")
	}
	for i := range kids {
		kids[i] = on(-9, 9, -9)
	}
}

// overwrite puts what may not be over a record's lists, and over the room behind their ends.
func overwrite(r api.Rec) {
	images, steps, txns, dirty := r.Images[:cap(r.Images)], r.Steps[:cap(r.Steps)], r.Txns[:cap(r.Txns)], r.Dirty[:cap(r.Dirty)]
	for _, im := range r.Images { // not those in the room: all marks have the same rows, kids
		overwriteContent(im.Before)
		overwriteContent(im.After)
	}
	for i := range images {
		images[i] = image(-9, free, free)
	}
	for i := range steps {
		steps[i] = api.Step{Kind: -9}
	}
	for i := range txns {
		txns[i] = api.CkTxn{Txn: -9}
	}
	for i := range dirty {
		dirty[i] = api.CkPage{Page: -9}
	}
}

// overwriteBytes changes all bytes, and the room behind them.
func overwriteBytes(b []byte) {
	b = b[:cap(b)]
	for i := range b {
		b[i] = 0x99
	}
}

// asked are records that may be, and some that may not.
func asked() []api.Rec {
	out := append(few(), whole(), api.Rec{}, mark, change(9, 1, 8, images(0, 17)...), done(9, 1, 8, 7, set(at(0, 1, 2, long(9)))), done(9, 1, 8, 7, take(0, 1), take(0, 2), take(0, 3)))
	for _, kind := range kinds {
		r := some(kind)
		r.Lsn = 0
		out = append(out, r)
	}
	d := dice(11)
	for range 300 {
		out = append(out, d.rec())
	}
	return out
}

// R3: no call changes the record that it is handed, nor the room behind its lists.
func TestRecordsAreLeft(t *testing.T) {
	for _, r := range asked() {
		in := roomy(r)
		record.Check(in)
		record.Encode(in)
		record.Undoable(in)
		record.Cost(in)
		record.Reserve(in)
		for page := -1; page <= api.MaxPages; page++ {
			record.Redoes(in, page)
		}
		other := roomy(some(api.RecChange))
		record.Same(in, other)
		record.Same(other, in)
		record.Same(in, in)
		checkUntouched(t, in, r)
		checkUntouched(t, other, some(api.RecChange))
	}
}

// R3: Decode changes no byte, nor the room behind them.
func TestBytesAreLeft(t *testing.T) {
	for _, r := range few() {
		whole := laid(r)
		for n := range len(whole) + 3 {
			want := slices.Concat(whole, []byte{1, 2, 3})[:n]
			in := roomyList(want, 0xEE)
			record.Decode(in)
			if !bytes.Equal(in[:n+margin], slices.Concat(want, bytes.Repeat([]byte{0xEE}, margin))) {
				t.Fatalf("% X is left of % X", in[:n+margin], want)
			}
		}
	}
}

// R3: bytes that Encode answers are new memory.
func TestEncodeIsNewMemory(t *testing.T) {
	for _, r := range few() {
		in := roomy(r)
		b := bytesOf(t, in)
		overwrite(in)
		if !bytes.Equal(b, laid(r)) {
			t.Fatalf("% X has become of % X", b, laid(r))
		}
		in = roomy(r)
		b = bytesOf(t, in)
		overwriteBytes(b)
		checkUntouched(t, in, r)
		if again := bytesOf(t, in); !bytes.Equal(again, laid(r)) {
			t.Fatalf("% X, once more, of %+v", again, r)
		}
	}
}

// R3: a record that Decode answers shares no memory with the bytes, nor with another answer.
func TestDecodeIsNewMemory(t *testing.T) {
	for _, r := range few() {
		b := roomyList(laid(r), 0xEE)
		got, e := record.Decode(b)
		expect(t, "Decode", e, api.OK)
		overwriteBytes(b)
		if !alike(got, r) {
			t.Fatalf("%+v has become of %+v", got, r)
		}
		b = laid(r)
		other, e := record.Decode(b)
		expect(t, "Decode", e, api.OK)
		overwrite(got)
		if !alike(other, r) || !bytes.Equal(b, laid(r)) {
			t.Fatalf("%+v, % X have become of %+v", other, b, r)
		}
	}
}

// R3: no two lists of one record that Decode answers share memory, the room behind their ends neither.
func TestDecodedListsShareNothing(t *testing.T) {
	for _, r := range []api.Rec{some(api.RecChange), change(9, 1, 8, images(4, 16)...), undone(9, 1, 8, 7, afters(images(9, 16))...)} {
		for i := range r.Images {
			for _, before := range []bool{true, false} {
				got, e := record.Decode(laid(r))
				expect(t, "Decode", e, api.OK)
				want := plain(r)
				if before {
					overwriteContent(got.Images[i].Before)
					got.Images[i].Before, want.Images[i].Before = free, free
				} else {
					overwriteContent(got.Images[i].After)
					got.Images[i].After, want.Images[i].After = free, free
				}
				if !alike(got, want) {
					t.Fatalf("%+v is left, want %+v", got, want)
				}
			}
		}
	}
	got, e := record.Decode(laid(some(api.RecCkpt)))
	expect(t, "Decode", e, api.OK)
	overwrite(api.Rec{Txns: got.Txns})
	if !slices.Equal(got.Dirty, some(api.RecCkpt).Dirty) {
		t.Fatalf("%v is left", got.Dirty)
	}
}

// R3: a content that Redoes answers shares no memory with the record, nor with another answer.
func TestRedoesIsNewMemory(t *testing.T) {
	for _, r := range []api.Rec{some(api.RecChange), some(api.RecUndone), change(9, 1, 8, images(4, 16)...)} {
		for _, im := range r.Images {
			in := roomy(r)
			c, _ := record.Redoes(in, im.Page)
			other, _ := record.Redoes(in, im.Page)
			overwriteContent(c)
			checkUntouched(t, in, r)
			if !alikeContent(other, im.After) {
				t.Fatalf("%v has become of %v", other, im.After)
			}
			overwrite(in)
			if !alikeContent(other, im.After) {
				t.Fatalf("%v has become of %v with the record", other, im.After)
			}
		}
	}
}

// R5: the same call answers the same, once more and behind others.
func TestAnswersStay(t *testing.T) {
	var want []string
	for round := range 3 {
		for i, r := range asked() {
			b, e := record.Encode(r)
			cost, f := record.Cost(r)
			reserve, g := record.Reserve(r)
			back, h := record.Decode(b)
			text := fmt.Sprint(record.Check(r), b, e, cost, f, reserve, g, back, h, record.Undoable(r))
			if round == 0 {
				want = append(want, text)
			} else if text != want[i] {
				t.Fatalf("%s, and once more %s", want[i], text)
			}
		}
	}
}
