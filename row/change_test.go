package row_test

import (
	"math"
	"slices"
	"testing"

	"bursary/api"
	"bursary/row"
)

// P5.3: rows whose key is there, and rows whose key is not, at all places of lists of all lengths.
func TestPut(t *testing.T) {
	for _, l := range goodLists() {
		for _, k := range keysAround(l) {
			r := api.Row{Key: k, Val: 4, Note: "new"}
			if !has(l, k) && len(l) == api.MaxRows {
				refusedPut(t, "full", example, l, r, api.ErrFull)
				continue
			}
			got, e := row.Put(example, l, r)
			checkList(t, "Put", got, e, put(l, r))
		}
	}
	got, e := row.Put(example, nil, api.Row{})
	checkList(t, "Put into nil", got, e, []api.Row{{}})
}

// P5.3: a row that is the same, or of which one field alone is another one.
func TestPutOfAKeyThatIsThere(t *testing.T) {
	l := []api.Row{at(0, 1, 1, "a"), at(0, 2, 2, "b"), at(1, 2, 3, "c")}
	for i, r := range l {
		for _, other := range []api.Row{r, {Key: r.Key, Val: r.Val, Note: "z"}, {Key: r.Key, Val: 0, Note: r.Note}, {Key: r.Key}} {
			want := slices.Clone(l)
			want[i] = other
			got, e := row.Put(example, l, other)
			checkList(t, "Put", got, e, want)
		}
	}
}

// P5.3: lists grow from none to MaxRows, whichever row comes when, and no further.
func TestPutTillFull(t *testing.T) {
	all := listOf(api.MaxRows)
	for _, step := range []int{1, 7, 13, 59} { // none of them goes into 60, so each row comes once
		var l, want []api.Row
		for i := range all {
			r := all[i*step%api.MaxRows]
			out, e := row.Put(example, l, r)
			want = put(want, r)
			checkList(t, "Put", out, e, want)
			l = out
		}
		checkList(t, "all of them", l, row.CheckList(example, l), all)
		refusedPut(t, "a row more", example, l, at(0, 0, 0, ""), api.ErrFull)
		refusedPut(t, "a row more", example, l, at(1, 65535, 0, ""), api.ErrFull)
		for i, r := range all {
			r.Note, r.Val = "full", 5
			out, e := row.Put(example, l, r)
			want := slices.Clone(all)
			want[i] = r
			checkList(t, "one that is there, of a full list", out, e, want)
		}
	}
}

// P5.3: CheckRow's error of the row, of lists with room and of full ones, ahead of ErrFull.
func TestPutOfWrongRows(t *testing.T) {
	for _, l := range [][]api.Row{nil, listOf(1), listOf(30), listOf(api.MaxRows)} {
		for r, want := range wrongs() {
			if want == api.OK && len(l) == api.MaxRows && !has(l, r.Key) {
				want = api.ErrFull
			}
			if want != api.OK {
				refusedPut(t, "Put", example, l, r, want)
				continue
			}
			got, e := row.Put(example, l, r)
			checkList(t, "Put", got, e, put(l, r))
		}
		for _, old := range l { // in the place of one that is there, too
			refusedPut(t, "Put", example, l, api.Row{Key: old.Key, Val: 11, Note: long(9)}, api.ErrLong)
			refusedPut(t, "Put", example, l, api.Row{Key: old.Key, Val: 11}, api.ErrBound)
		}
	}
}

// P5.3: rows at the edges of what may be.
func TestPutAtTheEdges(t *testing.T) {
	var l []api.Row
	for _, r := range []api.Row{
		at(0, 0, math.MinInt64, long(8)), at(0, 65535, math.MaxInt64, ""), at(1, 0, 7, "\x00"), at(2, 65535, 5, ""), at(2, 0, -5, ""), at(1, 65535, 7, ""),
	} {
		want := put(l, r)
		out, e := row.Put(wide, l, r)
		checkList(t, "Put", out, e, want)
		l = out
	}
	for _, r := range []api.Row{at(3, 0, 0, ""), at(-1, 65535, 0, "")} {
		refusedPut(t, "Put", wide, l, r, api.ErrRow)
	}
	refusedPut(t, "Put", wide, l, at(1, 0, 8, ""), api.ErrBound)
	refusedPut(t, "Put", wide, l, at(0, 0, 0, long(9)), api.ErrLong)
}

// P5.3: each row that is there, and keys that are not.
func TestTake(t *testing.T) {
	for _, l := range goodLists() {
		for i, want := range l {
			out, r, e := row.Take(example, l, want.Key)
			checkList(t, "Take", out, e, slices.Concat(l[:i], l[i+1:]))
			if r != want {
				t.Fatalf("Take(%v): %v, want %v", want.Key, r, want)
			}
		}
		for _, k := range keysAround(l) {
			if !has(l, k) {
				refusedTake(t, "not there", example, l, k, api.ErrNone)
			}
		}
		for _, table := range []int{math.MinInt, -1, 2, 3, math.MaxInt} {
			refusedTake(t, "no such table", example, l, key(table, 5), api.ErrRow)
		}
	}
	refusedTake(t, "of nil", example, nil, key(0, 0), api.ErrNone)
	refusedTake(t, "of nil", example, nil, key(2, 0), api.ErrRow)
	refusedTake(t, "of nil", wide, nil, key(2, 0), api.ErrNone)
}

// P5.3: till nothing is left.
func TestTakeTillNone(t *testing.T) {
	for _, step := range []int{1, 7, 13, 59} {
		l := listOf(api.MaxRows)
		for i := range api.MaxRows {
			want := listOf(api.MaxRows)[i*step%api.MaxRows]
			left := take(l, want.Key)
			out, r, e := row.Take(example, l, want.Key)
			checkList(t, "Take", out, e, left)
			if r != want {
				t.Fatalf("Take: %v, want %v", r, want)
			}
			refusedTake(t, "again", example, out, want.Key, api.ErrNone)
			l = out
		}
		if len(l) != 0 {
			t.Fatalf("%v is left", l)
		}
	}
}

// P5.3, R3: what is handed in stays, the room behind its end too, and what is answered shares nothing with it.
func TestPutKeepsNothing(t *testing.T) {
	for _, l := range goodLists() {
		for _, k := range append(keysAround(l), key(9, 9)) {
			r := api.Row{Key: k, Val: 4, Note: "new"}
			in := roomy(l)
			out, _ := row.Put(example, in, r)
			checkUntouched(t, "Put", in, l)
			want := slices.Clone(out)
			second, _ := row.Put(example, in, r)
			overwrite(out)
			checkUntouched(t, "behind a change of what Put answered", in, l)
			if !slices.Equal(second, want) {
				t.Fatalf("two answers share: %v, want %v", second, want)
			}
			overwrite(in)
			if !slices.Equal(second, want) {
				t.Fatalf("behind a change of the list: %v, want %v", second, want)
			}
		}
	}
}

// P5.3, R3: so of Take.
func TestTakeKeepsNothing(t *testing.T) {
	for _, l := range goodLists() {
		for _, k := range append(keysAround(l), key(9, 9)) {
			in := roomy(l)
			out, _, _ := row.Take(example, in, k)
			checkUntouched(t, "Take", in, l)
			want := slices.Clone(out)
			second, r, _ := row.Take(example, in, k)
			old := r
			overwrite(out)
			checkUntouched(t, "behind a change of what Take answered", in, l)
			if !slices.Equal(second, want) {
				t.Fatalf("two answers share: %v, want %v", second, want)
			}
			overwrite(in)
			if !slices.Equal(second, want) || r != old {
				t.Fatalf("behind a change of the list: %v, %v, want %v, %v", second, r, want, old)
			}
		}
	}
}

// P5.3, R3: the schema stays, and is not kept.
func TestPutAndTakeLeaveTheSchema(t *testing.T) {
	s := api.Schema{Tables: slices.Clone(example.Tables)}
	l, e := row.Put(s, listOf(9), at(0, 1, 10, ""))
	expect(t, "Put", e, api.OK)
	_, _, e = row.Take(s, l, key(0, 1))
	expect(t, "Take", e, api.OK)
	if !slices.Equal(s.Tables, example.Tables) {
		t.Fatalf("the schema is %v now", s)
	}
	s.Tables[0].Max = 9
	refusedPut(t, "by another bound", s, nil, at(0, 1, 10, ""), api.ErrBound)
	refusedTake(t, "by another bound", s, l, key(0, 1), api.ErrRow)
}
