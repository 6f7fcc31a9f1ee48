package record_test

import (
	"bytes"
	"slices"
	"testing"

	"bursary/api"
	"bursary/record"
)

// noCode asks Decode for an error, and nothing beside it.
func noCode(t *testing.T, name string, b []byte) {
	t.Helper()
	if r, e := record.Decode(b); e != api.ErrCode || !alike(r, api.Rec{}) {
		t.Fatalf("%s: Decode(% X): %+v, error %d", name, b, r, e)
	}
}

// checkDecode holds Decode of bytes against a reading by places.
func checkDecode(t *testing.T, b []byte) bool {
	t.Helper()
	want, whole := parsed(b)
	if !whole || record.Check(want) != api.OK {
		noCode(t, "a reading by places", b)
		return false
	}
	if r, e := record.Decode(b); e != api.OK || !alike(r, want) {
		t.Fatalf("Decode(% X): %+v, error %d, want %+v", b, r, e, want)
	}
	return true
}

// few are records of each Kind, not all too long.
func few() []api.Rec {
	var out []api.Rec
	for _, kind := range kinds {
		out = append(out, some(kind))
	}
	for _, q := range written() {
		out = append(out, q.r)
	}
	return append(out,
		done(9, 1, 8, 7, set(at(0, 1, 1, long(8))), put(at(2, 1, 1, ""))),
		done(9, 1, 8, 7, take(0, 1)),
		change(2, 1, 1, image(0, free, free)),
		undone(1000, 1, 600, 999, afters(images(40, 5))...),
		ckpt(900, 60, txns(8, 900), dirty(3, 900)))
}

// P12.2: bytes of a record are that, and those of no other one.
func TestDecode(t *testing.T) {
	for _, r := range goodRecs() {
		got, e := record.Decode(laid(r))
		if e != api.OK || !alike(got, r) {
			t.Fatalf("Decode(% X): %+v, error %d, want %+v", laid(r), got, e, r)
		}
	}
	noCode(t, "nil", nil)
	noCode(t, "no bytes", []byte{})
	for kind := range 256 {
		noCode(t, "a byte", []byte{byte(kind)})
		noCode(t, "noughts", append([]byte{byte(kind)}, make([]byte, 20)...))
		checkDecode(t, slices.Concat([]byte{byte(kind)}, laid(some(api.RecCommit))[1:]))
	}
	for n := range 200 {
		noCode(t, "noughts", make([]byte, n))
		noCode(t, "255s", bytes.Repeat([]byte{255}, n))
	}
	noCode(t, "many noughts", make([]byte, 1<<20))
}

// P12.2: each strict front of a record's bytes, and these with others behind them, are no record's.
func TestDecodeCut(t *testing.T) {
	for _, r := range few() {
		b := laid(r)
		for n := range b {
			noCode(t, "a front", b[:n])
		}
		for _, more := range [][]byte{{0}, {1}, {255}, {0, 0}, b, make([]byte, 52), make([]byte, 10000)} {
			noCode(t, "bytes more", slices.Concat(b, more))
		}
		noCode(t, "bytes ahead", slices.Concat([]byte{0}, b))
		noCode(t, "without the first", b[1:])
	}
}

// P12.2: a byte that is changed makes another record, or none.
func TestDecodeChanged(t *testing.T) {
	good, bad := 0, 0
	for _, r := range few() {
		b := laid(r)
		for i, old := range b {
			for x := range 256 {
				if byte(x) == old {
					continue
				}
				b[i] = byte(x)
				if checkDecode(t, b) {
					good++
				} else {
					bad++
				}
			}
			b[i] = old
		}
		checkDecode(t, b)
	}
	if good < 10000 || bad < 10000 {
		t.Fatalf("%d were records, %d none", good, bad)
	}
}

// P12.2: several bytes changed, taken out, put in: a record, or none, as its places say.
func TestDecodeTurned(t *testing.T) {
	d := dice(7)
	good := 0
	all := few()
	for range 60000 {
		b := laid(all[d.throw(len(all))])
		for range 1 + d.throw(3) {
			i := d.throw(len(b))
			switch d.throw(4) {
			case 0:
				b[i] = byte(d.throw(256))
			case 1:
				b[i] += byte(d.throw(5)) - 2
			case 2:
				b = slices.Insert(b, i, byte(d.throw(4)))
			case 3:
				b = slices.Delete(b, i, i+1)
			}
		}
		if checkDecode(t, b) {
			good++
		}
	}
	if good < 1000 {
		t.Fatalf("%d were records", good)
	}
}

// P12.2: counts that are too large, with as many parts as they say, and with fewer.
func TestDecodeCounts(t *testing.T) {
	head := func(kind int) []byte { return laid(head(kind, 1000, 7, 500))[:21] }
	next, free := laidNumber(8, 0), []byte{0}
	many := func(n, most int, part func(i int) []byte) []byte {
		out := []byte{byte(n)}
		for i := range min(n, most) {
			out = append(out, part(i)...)
		}
		return out
	}
	images := func(i int) []byte { return []byte{byte(i), 0, 0} }
	afters := func(i int) []byte { return []byte{byte(i), 0} }
	takes := func(i int) []byte { return []byte{api.StepTake, 0, 0, byte(i)} }
	txns := func(i int) []byte {
		return slices.Concat(laidNumber(4, uint64(i+1)), laidNumber(8, 1), laidNumber(8, 1), laidNumber(8, 1), []byte{1})
	}
	dirty := func(i int) []byte { return append([]byte{byte(i)}, laidNumber(8, 1)...) }
	ckpt := slices.Concat([]byte{api.RecCkpt}, laidNumber(8, 1000), make([]byte, 12), laidNumber(4, 1000))
	for n := range 256 {
		for _, most := range []int{n, n - 1, n + 1, 0, 1, 16, 64} {
			made := max(0, min(n, most))
			for name, q := range map[string]struct {
				b    []byte
				want bool
			}{
				"Change": {append(head(api.RecChange), many(n, made, images)...), n >= 1 && n <= 16},
				"Undone": {slices.Concat(head(api.RecUndone), next, many(n, made, afters)), n <= 16},
				"Done":   {slices.Concat(head(api.RecDone), next, many(n, made, takes)), n >= 1 && n <= 2},
				"Txns":   {slices.Concat(ckpt, many(n, made, txns), free), n <= 8},
				"Dirty":  {slices.Concat(ckpt, free, many(n, made, dirty)), n <= 64},
			} {
				if got := checkDecode(t, q.b); got != (q.want && made == n) {
					t.Fatalf("%s of %d, %d are there: %t", name, n, made, got)
				}
			}
		}
	}
}
