package record_test

import (
	"reflect"
	"testing"

	"bursary/api"
	"bursary/record"
)

// whole is a record in which no field is zero and no list empty; it may not be.
func whole() api.Rec {
	c := func(n int) api.Content {
		return api.Content{Kind: n, Rows: []api.Row{at(n, 1, 2, "a"), at(3, uint16(n), 4, "bc")}, Kids: []api.Kid{on(1, uint16(n), 3), on(4, 5, n)}}
	}
	return api.Rec{
		Kind: 1, Lsn: 2, Txn: 3, Prev: 4, Next: 5,
		Images:  []api.Image{image(6, c(7), c(8)), image(9, c(10), c(11))},
		Steps:   []api.Step{{Kind: 12, Row: at(13, 14, 15, "d"), By: 16}, {Kind: 17, Row: at(18, 19, 20, "e"), By: 21}},
		NextTxn: 22,
		Txns:    []api.CkTxn{{Txn: 23, First: 24, Last: 25, Undo: 26, State: 27}, {Txn: 28, First: 29, Last: 30, Undo: 31, State: 32}},
		Dirty:   []api.CkPage{{Page: 33, Rec: 34}, {Page: 35, Rec: 36}},
	}
}

// edits are all changes to one number, one text, one list within v, each of which is undone behind the call of told.
func edits(v reflect.Value, told func()) {
	old := reflect.ValueOf(v.Interface())
	try := func(x reflect.Value) {
		v.Set(x.Convert(v.Type()))
		told()
		v.Set(old)
	}
	switch v.Kind() {
	case reflect.Int, reflect.Int64:
		for _, by := range []int64{1, -1, 256, 1 << 32, -1 << 63} {
			try(reflect.ValueOf(v.Int() + by))
		}
	case reflect.Uint16, reflect.Uint64:
		for _, by := range []uint64{1, 256, 1 << 15} {
			try(reflect.ValueOf(v.Uint() + by))
		}
		if v.Kind() == reflect.Uint64 {
			try(reflect.ValueOf(v.Uint() + 1<<63))
		}
	case reflect.String:
		try(reflect.ValueOf(v.String() + "\x00"))
		try(reflect.ValueOf(v.String()[1:]))
		try(reflect.ValueOf("\x00" + v.String()[1:]))
	case reflect.Struct:
		for i := range v.NumField() {
			edits(v.Field(i), told)
		}
	case reflect.Slice:
		try(reflect.Zero(v.Type()))
		try(v.Slice(0, v.Len()-1))
		try(v.Slice(1, v.Len()))
		longer := reflect.AppendSlice(reflect.MakeSlice(v.Type(), 0, 9), v)
		try(reflect.Append(longer, reflect.Zero(v.Type().Elem())))
		try(reflect.Append(longer, v.Index(v.Len()-1)))
		turned := reflect.Append(reflect.MakeSlice(v.Type(), 0, 9), v.Index(1), v.Index(0))
		try(turned)
		for i := range v.Len() {
			edits(v.Index(i), told)
		}
	}
}

// P12.1: records that differ in one field, at whatever depth, are not the same.
func TestSameOfOneChange(t *testing.T) {
	a, b := whole(), whole()
	n := 0
	edits(reflect.ValueOf(&b).Elem(), func() {
		n++
		if record.Same(a, b) || record.Same(b, a) {
			t.Fatalf("%+v is told to be the same as %+v", a, b)
		}
		if !record.Same(b, b) {
			t.Fatalf("%+v is told not to be the same as itself", b)
		}
	})
	if !record.Same(a, b) || !alike(a, whole()) || n < 400 {
		t.Fatalf("%d changes; %+v, %+v are left", n, a, b)
	}
}

// P12.1: of lists nil and empty are one, at each depth.
func TestSameOfEmptyLists(t *testing.T) {
	for _, r := range append(goodRecs(), api.Rec{}, whole()) {
		for _, a := range []api.Rec{r, plain(r), emptied(r)} {
			for _, b := range []api.Rec{r, plain(r), emptied(r)} {
				if !record.Same(a, b) {
					t.Fatalf("%#v is told not to be the same as %#v", a, b)
				}
			}
		}
	}
	a, b := api.Rec{Images: []api.Image{{Before: api.Content{Rows: []api.Row{}}}}}, api.Rec{Images: []api.Image{{After: api.Content{Kids: []api.Kid{}}}}}
	if !record.Same(a, b) || !record.Same(b, a) {
		t.Fatalf("%#v is told not to be the same as %#v", a, b)
	}
}

// P12.1: of whatever two records Same says what a comparison of all fields says.
func TestSameOfPairs(t *testing.T) {
	all := append(goodRecs()[:250], api.Rec{}, whole())
	same := 0
	for _, a := range all {
		for _, b := range all {
			got := record.Same(a, b)
			if got != alike(a, b) {
				t.Fatalf("Same(%+v, %+v): %t", a, b, got)
			}
			if got {
				same++
			}
		}
	}
	if same < len(all) || same > 2*len(all) {
		t.Fatalf("%d pairs of %d records were the same", same, len(all))
	}
}
