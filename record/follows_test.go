package record_test

import (
	"bytes"
	"fmt"
	"testing"

	"bursary/api"
	"bursary/record"
)

// many are records that may be: written down, and by chance.
func many(n int) []api.Rec {
	d := dice(n)
	out := goodRecs()
	for range n {
		out = append(out, d.rec())
	}
	return out
}

// P12.5: Decode of Encode is the record.
func TestFollowsDecodeOfEncode(t *testing.T) {
	for _, r := range many(4000) {
		got, e := record.Decode(bytesOf(t, r))
		if e != api.OK || !alike(got, r) || !record.Same(got, r) {
			t.Fatalf("%+v, error %d, comes of %+v", got, e, r)
		}
	}
}

// P12.5: Encode of Decode is the bytes, of whatever bytes are a record's.
func TestFollowsEncodeOfDecode(t *testing.T) {
	d := dice(5)
	all := many(500)
	n := 0
	for range 40000 {
		b := laid(all[d.throw(len(all))])
		b[d.throw(len(b))] ^= 1 << d.throw(8)
		r, e := record.Decode(b)
		if e != api.OK {
			continue
		}
		n++
		if got := bytesOf(t, r); !bytes.Equal(got, b) {
			t.Fatalf("% X come of % X", got, b)
		}
	}
	if n < 4000 {
		t.Fatalf("%d were records", n)
	}
}

// P12.5: unlike records have unlike bytes.
func TestFollowsUnlike(t *testing.T) {
	seen := map[string]string{}
	for _, r := range many(4000) {
		b, text := string(bytesOf(t, r)), fmt.Sprintf("%#v", plain(r))
		if other, there := seen[b]; there && other != text {
			t.Fatalf("%s and %s have the same bytes", other, text)
		}
		seen[b] = text
	}
	texts := map[string]int{}
	for _, text := range seen {
		texts[text]++
	}
	if len(texts) != len(seen) || len(seen) < 4000 {
		t.Fatalf("%d records have %d rows of bytes", len(texts), len(seen))
	}
}

// P12.5: a RecUndone of the Before images of a RecChange costs no more than its Reserve, whatever its numbers.
func TestFollowsReserve(t *testing.T) {
	d := dice(6)
	n := 0
	for _, r := range many(8000) {
		if r.Kind != api.RecChange {
			continue
		}
		n++
		var l []api.Image
		for _, im := range r.Images {
			l = append(l, image(im.Page, free, im.Before))
		}
		reserve, e := record.Reserve(r)
		expect(t, "Reserve", e, api.OK)
		for _, u := range []api.Rec{undone(r.Lsn, r.Txn, r.Prev, 0, l...), undone(api.MaxLsn, r.Txn, d.lsn(1, 1<<39), d.lsn(0, 1<<39), l...)} {
			if cost, e := record.Cost(u); e != api.OK || cost > reserve {
				t.Fatalf("%+v costs %d, error %d; %d are reserved for %+v", u, cost, e, reserve, r)
			}
		}
	}
	if n < 1000 {
		t.Fatalf("%d were Changes", n)
	}
}

// P12.5: each record costs at least one sector.
func TestFollowsCost(t *testing.T) {
	for _, r := range many(4000) {
		if n, e := record.Cost(r); e != api.OK || n < 1 {
			t.Fatalf("%+v costs %d, error %d", r, n, e)
		}
	}
}
