package row_test

import (
	"cmp"
	"math"
	"testing"

	"bursary/api"
	"bursary/row"
)

// P5.5: what Put and Take leave may be, whatever was put and taken, in whichever order; keys, values and notes that may not be are among it.
func TestWhatIsLeftMayBe(t *testing.T) {
	for _, s := range []api.Schema{example, wide, {Tables: example.Tables[:1]}} {
		var l []api.Row
		seen := map[api.Errno]int{}
		x := uint32(1)
		next := func(n uint32) int {
			x = x*1664525 + 1013904223
			return int(x >> 16 % n)
		}
		for range 20000 {
			r := at(next(5)-1, uint16(next(40)), int64(next(20))-7, long(next(10)))
			out, e := row.Put(s, l, r)
			if next(5) == 0 {
				out, _, e = row.Take(s, l, r.Key)
			}
			seen[e]++
			if e == api.OK {
				l = out
			}
			expect(t, "what is left", row.CheckList(s, l), api.OK)
		}
		for _, e := range []api.Errno{api.OK, api.ErrRow, api.ErrNone, api.ErrLong, api.ErrBound} {
			if seen[e] < 100 {
				t.Fatalf("answers: %v", seen)
			}
		}
	}
}

// P5.5: what was put is found, and nothing else is lost.
func TestWhatWasPutIsFound(t *testing.T) {
	for _, l := range goodLists() {
		for _, k := range keysAround(l) {
			r := api.Row{Key: k, Val: 3, Note: "put"}
			out, e := row.Put(example, l, r)
			if e != api.OK {
				continue
			}
			i, there := row.Find(out, k)
			if !there || out[i] != r {
				t.Fatalf("%v was put: %d, %t in %v", r, i, there, out)
			}
			for _, old := range l {
				if i, there := row.Find(out, old.Key); !there || old.Key != k && out[i] != old {
					t.Fatalf("%v was put, and %v is lost: %v", r, old, out)
				}
			}
		}
	}
}

// P5.5: a Put of what was taken leads back.
func TestTakeAndBack(t *testing.T) {
	for _, l := range goodLists() {
		for _, was := range l {
			left, r, e := row.Take(example, l, was.Key)
			expect(t, "Take", e, api.OK)
			back, e := row.Put(example, left, r)
			expect(t, "Put", e, api.OK)
			if !row.Same(back, l) {
				t.Fatalf("%v, taken and put: %v, want %v", was, back, l)
			}
		}
	}
}

// P5.5: a Take of what was put, as one more, leads back.
func TestPutAndBack(t *testing.T) {
	for _, l := range goodLists() {
		for _, k := range keysAround(l) {
			if has(l, k) || len(l) == api.MaxRows {
				continue
			}
			put := api.Row{Key: k, Val: 2, Note: "put"}
			out, e := row.Put(example, l, put)
			expect(t, "Put", e, api.OK)
			back, r, e := row.Take(example, out, k)
			expect(t, "Take", e, api.OK)
			if !row.Same(back, l) || r != put {
				t.Fatalf("%v, put and taken: %v, want %v", k, back, l)
			}
		}
	}
}

// P5.5: Compare is one order: of three keys, whichever they are and in every order.
func TestCompareIsOneOrder(t *testing.T) {
	var keys []api.Key
	for _, table := range []int{math.MinInt, -1, 0, 1, 2, math.MaxInt} {
		for _, id := range []uint16{0, 1, 32768, 65535} {
			keys = append(keys, key(table, id))
		}
	}
	for _, a := range keys {
		for _, b := range keys {
			ab := row.Compare(a, b)
			if ab != -row.Compare(b, a) || (ab == 0) != (a == b) {
				t.Fatalf("%v, %v: %d, and the other way round %d", a, b, ab, row.Compare(b, a))
			}
			for _, c := range keys {
				bc, ac := row.Compare(b, c), row.Compare(a, c)
				if ab <= 0 && bc <= 0 && ac != cmp.Or(ab, bc) {
					t.Fatalf("%v, %v, %v: %d, %d, and %d", a, b, c, ab, bc, ac)
				}
				if ab >= 0 && bc >= 0 && ac != cmp.Or(ab, bc) {
					t.Fatalf("%v, %v, %v: %d, %d, and %d", a, b, c, ab, bc, ac)
				}
			}
		}
	}
}

// P5.5: the parts of all tables, one behind the other, are the list; each may be a list by itself.
func TestPartsOfAllTables(t *testing.T) {
	for _, l := range append(goodLists(), nil) {
		var joined []api.Row
		for table := range example.Tables {
			part := row.Of(l, table)
			expect(t, "a part", row.CheckList(example, part), api.OK)
			joined = append(joined, part...)
		}
		if !row.Same(joined, l) {
			t.Fatalf("%v, in parts: %v", l, joined)
		}
	}
	l := []api.Row{at(0, 3, -9, ""), at(1, 1, 7, ""), at(2, 1, 5, ""), at(2, 2, -5, "")}
	var joined []api.Row
	for table := range wide.Tables {
		joined = append(joined, row.Of(l, table)...)
	}
	if !row.Same(joined, l) {
		t.Fatalf("%v, in parts: %v", l, joined)
	}
}
