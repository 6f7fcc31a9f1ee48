package codec_test

import (
	"bytes"
	"math"
	"testing"

	"bursary/api"
	"bursary/codec"
)

// laidRow is how the chapter says that a row stands, place by place.
func laidRow(r api.Row) []byte {
	out := []byte{byte(r.Key.Table), byte(r.Key.Id / 256), byte(r.Key.Id % 256)}
	for place := 7; place >= 0; place-- {
		out = append(out, byte(uint64(r.Val)/uint64(math.Pow(256, float64(place)))%256))
	}
	return bytesOf(out, len(r.Note), r.Note)
}

// takenRow is what TakeRow is to say of bytes, by their places, and how many bytes the row has.
func takenRow(b []byte) (int, api.Errno) {
	switch {
	case len(b) > 0 && b[0] >= api.MaxTables:
		return 0, api.ErrCode
	case len(b) < 12:
		return 0, api.ErrShort
	case b[11] > api.MaxNote:
		return 0, api.ErrCode
	case len(b) < 12+int(b[11]):
		return 0, api.ErrShort
	}
	return 12 + int(b[11]), api.OK
}

// P6.2: a row's bytes, and the errors of those that may not be laid.
func TestRow(t *testing.T) {
	for _, r := range goodRows() {
		b, e := codec.Row(r)
		checkBytes(t, "Row", b, e, laidRow(r))
	}
	for _, r := range badRows() {
		if b, e := codec.Row(r); e != api.ErrRow || len(b) != 0 {
			t.Fatalf("Row(%v): % X, error %d", r, b, e)
		}
	}
}

// P6.2: some rows, written out.
func TestRowWrittenOut(t *testing.T) {
	for _, q := range []struct {
		r    api.Row
		want []byte
	}{
		{api.Row{}, make([]byte, 12)},
		{at(2, 65535, math.MinInt64, ""), bytesOf(2, 0xFF, 0xFF, 0x80, make([]byte, 7), 0)},
		{at(0, 0x1234, math.MaxInt64, "\x00"), bytesOf(0, 0x12, 0x34, 0x7F, bytes.Repeat([]byte{0xFF}, 7), 1, 0)},
		{at(1, 1, 0x0102030405060708, "12345678"), bytesOf(1, 0, 1, 1, 2, 3, 4, 5, 6, 7, 8, 8, "12345678")},
		{at(1, 256, -2, "\u00e4"), bytesOf(1, 1, 0, bytes.Repeat([]byte{0xFF}, 7), 0xFE, 2, 0xC3, 0xA4)},
	} {
		b, e := codec.Row(q.r)
		checkBytes(t, "Row", b, e, q.want)
		tookRow(t, q.want, q.r, len(q.want))
	}
}

// P6.2: bytes that are cut off at each place, and bytes with others behind them.
func TestTakeRow(t *testing.T) {
	for _, r := range goodRows() {
		b := laidRow(r)
		for n := range b {
			noRow(t, b[:n], api.ErrShort)
		}
		for _, more := range behind() {
			tookRow(t, bytesOf(b, more), r, len(b))
		}
	}
}

// P6.2: what may not be is told as soon as it is met, ahead of the end.
func TestTakeRowErrorsInOrder(t *testing.T) {
	head := bytesOf(1, 2, 3, val(4)) // all that stands ahead of how long the note is
	for _, q := range []struct {
		b []byte
		e api.Errno
	}{
		{nil, api.ErrShort},
		{bytesOf(0), api.ErrShort},
		{bytesOf(2), api.ErrShort},
		{bytesOf(3), api.ErrCode},
		{bytesOf(4), api.ErrCode},
		{bytesOf(255), api.ErrCode},
		{bytesOf(3, 0), api.ErrCode},
		{bytesOf(3, 0, 0, val(0)), api.ErrCode},
		{bytesOf(3, 0, 0, val(0), 9), api.ErrCode},
		{bytesOf(3, 0, 0, val(0), 0), api.ErrCode},
		{bytesOf(3, 0, 0, val(0), 2, "ab"), api.ErrCode},
		{bytesOf(2, 9), api.ErrShort},
		{head[:10], api.ErrShort},
		{head, api.ErrShort},
		{bytesOf(head, 9), api.ErrCode},
		{bytesOf(head, 255), api.ErrCode},
		{bytesOf(head, 9, "ab"), api.ErrCode},
		{bytesOf(head, 9, "123456789"), api.ErrCode},
		{bytesOf(head, 8), api.ErrShort},
		{bytesOf(head, 8, "1234567"), api.ErrShort},
		{bytesOf(head, 1), api.ErrShort},
		{bytesOf(255, bytes.Repeat([]byte{255}, 300)), api.ErrCode},
	} {
		noRow(t, q.b, q.e)
	}
}

// P6.2: each first byte, and each byte that says how long the note is, ahead of all numbers of bytes.
func TestTakeRowOfEachByte(t *testing.T) {
	for x := range 256 {
		for n := range 40 {
			for _, b := range [][]byte{
				bytesOf(x, make([]byte, n)),
				bytesOf(1, 2, 3, val(4), x, long(n)),
			} {
				size, e := takenRow(b)
				if e != api.OK {
					noRow(t, b, e)
					continue
				}
				r, got, e := codec.TakeRow(b)
				expect(t, "TakeRow", e, api.OK)
				if got != size || !bytes.Equal(laidRow(r), b[:size]) {
					t.Fatalf("TakeRow(% X): %v, %d bytes", b, r, got)
				}
			}
		}
	}
}

// R3: bytes that are handed in stay, and what was answered shares no memory with them, nor with another answer.
func TestRowsShareNoMemory(t *testing.T) {
	for _, r := range []api.Row{at(1, 258, -1, "ab"), at(2, 3, 4, ""), at(0, 65535, 9, long(8))} {
		want := laidRow(r)
		one, two := rowBytes(t, r), rowBytes(t, r)
		overwrite(one)
		checkBytes(t, "a later answer", two, api.OK, want)
		checkBytes(t, "asked once more", rowBytes(t, r), api.OK, want)

		in := roomy(want)
		got, n, e := codec.TakeRow(in)
		expect(t, "TakeRow", e, api.OK)
		checkUntouched(t, in, want)
		overwrite(in)
		if got != r || n != len(want) {
			t.Fatalf("%v, behind a change of the bytes: %v, %d", r, got, n)
		}
	}
}
