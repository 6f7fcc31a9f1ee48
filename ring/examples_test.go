package ring_test

import (
	"bytes"
	"testing"

	"bursary/api"
	"bursary/ring"
)

// P4.1 to P4.5: the chapter's examples, call by call, all on one disk of 8 sectors.
func TestExamples(t *testing.T) {
	if a, b, c := ring.Sectors(0), ring.Sectors(52), ring.Sectors(53); a != 1 || b != 1 || c != 2 {
		t.Fatalf("Sectors(0), (52), (53): %d, %d, %d", a, b, c)
	}

	d := made(t, 8)
	r, e := ring.Format(d, 6)
	expect(t, "Format(6)", e, api.OK)
	left := func(want int) {
		t.Helper()
		if got := r.Left(); got != want {
			t.Fatalf("Left: %d, want %d", got, want)
		}
	}
	expect(t, "Append(100 bytes)", r.Append(make([]byte, 100)), api.OK)
	expect(t, "Append(3)", r.Append(make([]byte, 3)), api.OK)
	left(3)
	expect(t, "Append(160)", r.Append(make([]byte, 160)), api.ErrFull)

	expect(t, "Cut(1, note 7)", r.Cut(1, []byte{7}), api.OK)
	if got := r.First(); got != 2 {
		t.Fatalf("First: %d", got)
	}
	left(5)
	expect(t, "Append(160)", r.Append(make([]byte, 160)), api.OK)
	left(1)
	r, e = ring.Open(d)
	expect(t, "Open", e, api.OK)
	if r.First() != 2 || !bytes.Equal(r.Note(), []byte{7}) || len(r.All()) != 2 {
		t.Fatalf("Open: First %d, note %v, %d entries", r.First(), r.Note(), len(r.All()))
	}

	if r, e := ring.Format(d, 7); r != nil || e != api.ErrArg {
		t.Fatalf("Format(disk, 7): %v, error %d", r, e)
	}
	if r, e := ring.Open(made(t, 8)); r != nil || e != api.ErrRing {
		t.Fatalf("Open(a disk of noughts): %v, error %d", r, e)
	}
}

// P4.1 to P4.3: the bytes that stand in the sectors, written out by hand.
func TestBytes(t *testing.T) {
	d := made(t, 8)
	r, e := ring.Format(d, 6)
	expect(t, "Format", e, api.OK)
	expect(t, "Append", r.Append(bytes.Repeat([]byte{9}, 54)), api.OK)
	expect(t, "Append", r.Append([]byte{1, 2, 3}), api.OK)
	expect(t, "Cut", r.Cut(1, []byte{7, 8}), api.OK)
	expect(t, "Append", r.Append(nil), api.OK)
	sectors := said(d)
	letters := []byte{'b', 'u', 'r', 's', 'r', 'i', 'n', 'g'}
	for i, want := range [][]byte{
		append(letters[:8:8], 0, 0, 0, 2, 0, 6, 0, 0, 0, 0, 2, 0, 2, 2, 7, 8),
		append(letters[:8:8], 0, 0, 0, 1, 0, 6, 0, 0, 0, 0, 1, 0, 0, 0),
		append([]byte{0, 0, 0, 1, 0, 0, 0, 0, 1, 0, 54, 0}, bytes.Repeat([]byte{9}, 52)...),
		{0, 0, 0, 1, 0, 0, 0, 0, 1, 0, 54, 1, 9, 9},
		{0, 0, 0, 1, 0, 0, 0, 0, 2, 0, 3, 0, 1, 2, 3},
		{0, 0, 0, 2, 0, 0, 0, 0, 3, 0, 0, 0},
		{},
		{},
	} {
		if sectors[i] != filled(want) {
			t.Errorf("sector %d: %v, want %v", i, sectors[i], want)
		}
	}
}
