package octet_test

import (
	"bytes"
	"math"
	"testing"

	"bursary/api"
	"bursary/octet"
)

// roomy is b with room behind its end that holds marks.
func roomy(b ...byte) []byte {
	all := append(bytes.Clone(b), bytes.Repeat([]byte{0xEE}, 16)...)
	return all[:len(b)]
}

// untouched says whether roomy bytes, and the room behind them, are as they were made.
func untouched(b []byte, want ...byte) bool {
	return bytes.Equal(b, want) && bytes.Equal(b[len(b):len(b)+16], bytes.Repeat([]byte{0xEE}, 16))
}

// samples are bytes of many lengths and values.
func samples() [][]byte {
	var out [][]byte
	for n := range 20 {
		b := make([]byte, n)
		for i := range b {
			b[i] = byte(i*37 + n*11 + 1)
		}
		out = append(out, b)
	}
	return append(out, []byte{0}, []byte{0, 0, 0, 0, 0, 0, 0, 0, 0}, bytes.Repeat([]byte{0xFF}, 9))
}

// numbers are edges of all widths, and numbers whose bytes all differ.
func numbers() []uint64 {
	out := []uint64{0, 0x0102030405060708, 0xF1E2D3C4B5A69788}
	for i := range 64 {
		out = append(out, 1<<i, 1<<i-1, math.MaxUint64-1<<i, math.MaxUint64>>i)
	}
	return out
}

// P1.1
func TestPut(t *testing.T) {
	for _, q := range []struct {
		got, want []byte
	}{
		{octet.Put16([]byte{5}, 515), []byte{5, 2, 3}},
		{octet.Put16(nil, 0), []byte{0, 0}},
		{octet.Put16(nil, 1), []byte{0, 1}},
		{octet.Put16(nil, 256), []byte{1, 0}},
		{octet.Put16([]byte{}, math.MaxUint16), []byte{0xFF, 0xFF}},
		{octet.Put32(nil, 1<<31), []byte{0x80, 0, 0, 0}},
		{octet.Put32(nil, 0), []byte{0, 0, 0, 0}},
		{octet.Put32([]byte{9, 8}, 0x01020304), []byte{9, 8, 1, 2, 3, 4}},
		{octet.Put32(nil, math.MaxUint32), []byte{0xFF, 0xFF, 0xFF, 0xFF}},
		{octet.Put64(nil, 0), []byte{0, 0, 0, 0, 0, 0, 0, 0}},
		{octet.Put64([]byte{7}, 0x0102030405060708), []byte{7, 1, 2, 3, 4, 5, 6, 7, 8}},
		{octet.Put64(nil, 1<<63), []byte{0x80, 0, 0, 0, 0, 0, 0, 0}},
		{octet.Put64(nil, math.MaxUint64), bytes.Repeat([]byte{0xFF}, 8)},
	} {
		if !bytes.Equal(q.got, q.want) {
			t.Errorf("got %v, want %v", q.got, q.want)
		}
	}
}

// puts are the three calls, as calls of 64 bits.
func puts() map[int]func([]byte, uint64) []byte {
	return map[int]func([]byte, uint64) []byte{
		2: func(b []byte, x uint64) []byte { return octet.Put16(b, uint16(x)) },
		4: func(b []byte, x uint64) []byte { return octet.Put32(b, uint32(x)) },
		8: octet.Put64,
	}
}

// P1.1: the bytes that are handed in, the room behind them, and what was answered ahead share nothing with the answer.
func TestPutIsNewMemory(t *testing.T) {
	for width, put := range puts() {
		b := roomy(1, 2)
		one := put(b, 0x1122334455667788)
		two := put(b, 0)
		if !untouched(b, 1, 2) {
			t.Errorf("width %d: the room behind the end is changed: %v", width, b[:18])
		}
		if !bytes.Equal(one[2:], octet.Put64(nil, 0x1122334455667788)[8-width:]) {
			t.Errorf("width %d: a second call has changed the first one's answer: %v", width, one)
		}
		clear(two)
		if !untouched(b, 1, 2) {
			t.Errorf("width %d: the answer shares memory with the argument", width)
		}
		b[0] = 77
		if one[0] != 1 {
			t.Errorf("width %d: the argument is kept", width)
		}
	}
}

// P1.2
func TestFill(t *testing.T) {
	for _, q := range []struct {
		b    []byte
		n    int
		want []byte
		e    api.Errno
	}{
		{[]byte{7}, 3, []byte{7, 0, 0}, api.OK},
		{[]byte{7, 8}, 2, []byte{7, 8}, api.OK},
		{[]byte{7, 8}, 1, nil, api.ErrLong},
		{[]byte{7, 8}, 0, nil, api.ErrLong},
		{[]byte{7, 8}, 3, []byte{7, 8, 0}, api.OK},
		{nil, 0, nil, api.OK},
		{nil, 1, []byte{0}, api.OK},
		{[]byte{}, 2, []byte{0, 0}, api.OK},
		{nil, -1, nil, api.ErrArg},
		{[]byte{7, 8}, -1, nil, api.ErrArg},
		{[]byte{7}, math.MinInt, nil, api.ErrArg},
		{[]byte{7}, math.MaxInt, nil, api.ErrLong},
		{nil, 1 << 31, nil, api.ErrLong},
	} {
		if got, e := octet.Fill(q.b, q.n); e != q.e || !bytes.Equal(got, q.want) {
			t.Errorf("Fill(%v, %d): %v %d, want %v %d", q.b, q.n, got, e, q.want, q.e)
		}
	}
}

// P1.2: what is filled is new memory, also where no nought is added.
func TestFillIsNewMemory(t *testing.T) {
	for _, n := range []int{2, 3, 10} {
		b := roomy(1, 2)
		got, e := octet.Fill(b, n)
		if e != api.OK || len(got) != n || !untouched(b, 1, 2) {
			t.Fatalf("Fill(1 2, %d): %v %d, and %v is left", n, got, e, b[:18])
		}
		for i := range got {
			got[i] = 99
		}
		if !untouched(b, 1, 2) {
			t.Errorf("Fill(1 2, %d) shares memory with its argument", n)
		}
	}
}

// P1.3: numbers of all widths, one behind the other.
func TestReadNumbers(t *testing.T) {
	r := octet.Read([]byte{1, 0, 2, 0x80, 0, 0, 0, 1, 2, 3, 4, 5, 6, 7, 8, 0xFF})
	if r.Err() != api.OK || r.Left() != 16 {
		t.Fatalf("a new reader: %d left, error %d", r.Left(), r.Err())
	}
	if x := r.U16(); x != 256 || r.Left() != 14 {
		t.Errorf("U16: %d, %d left", x, r.Left())
	}
	if x := r.U8(); x != 2 || r.Left() != 13 {
		t.Errorf("U8: %d, %d left", x, r.Left())
	}
	if x := r.U32(); x != 1<<31 || r.Left() != 9 {
		t.Errorf("U32: %d, %d left", x, r.Left())
	}
	if x := r.U64(); x != 0x0102030405060708 || r.Left() != 1 {
		t.Errorf("U64: %x, %d left", x, r.Left())
	}
	if x := r.U8(); x != 255 || r.Left() != 0 || r.Err() != api.OK {
		t.Errorf("U8: %d, %d left, error %d", x, r.Left(), r.Err())
	}
}

// asks are the calls that give numbers, by how many bytes they take.
func asks() map[int]func(r *octet.Reader) uint64 {
	return map[int]func(r *octet.Reader) uint64{
		1: func(r *octet.Reader) uint64 { return uint64(r.U8()) },
		2: func(r *octet.Reader) uint64 { return uint64(r.U16()) },
		4: func(r *octet.Reader) uint64 { return uint64(r.U32()) },
		8: (*octet.Reader).U64,
	}
}

// P1.3, P1.4: with just as many bytes as are asked for it is not stuck; with fewer, none among them, it is, and stays where it stood.
func TestReadAtTheEnd(t *testing.T) {
	for width, ask := range asks() {
		full := bytes.Repeat([]byte{0xAB}, width)
		r := octet.Read(full)
		if x := ask(r); x != 0xABABABABABABABAB>>(64-8*width) || r.Left() != 0 || r.Err() != api.OK {
			t.Errorf("width %d of as many: %x, %d left, error %d", width, x, r.Left(), r.Err())
		}
		if x := ask(r); x != 0 || r.Left() != 0 || r.Err() != api.ErrShort {
			t.Errorf("width %d of nothing: %x, %d left, error %d", width, x, r.Left(), r.Err())
		}
		for n := range width {
			r := octet.Read(full[:n])
			if x := ask(r); x != 0 || r.Left() != n || r.Err() != api.ErrShort {
				t.Errorf("width %d of %d: %x, %d left, error %d", width, n, x, r.Left(), r.Err())
			}
		}
	}
}

// P1.3, P1.4
func TestRaw(t *testing.T) {
	for _, q := range []struct {
		b, want []byte
		n, left int
		e       api.Errno
	}{
		{[]byte{4, 5, 6}, []byte{4, 5}, 2, 1, api.OK},
		{[]byte{4, 5, 6}, []byte{4, 5, 6}, 3, 0, api.OK},
		{[]byte{4, 5, 6}, nil, 4, 3, api.ErrShort},
		{[]byte{4, 5, 6}, nil, math.MaxInt, 3, api.ErrShort},
		{[]byte{4, 5, 6}, nil, 0, 3, api.OK},
		{[]byte{4, 5, 6}, nil, -1, 3, api.ErrArg},
		{[]byte{4, 5, 6}, nil, math.MinInt, 3, api.ErrArg},
		{nil, nil, 0, 0, api.OK},
		{nil, nil, 1, 0, api.ErrShort},
		{nil, nil, -1, 0, api.ErrArg},
	} {
		r := octet.Read(q.b)
		if got := r.Raw(q.n); !bytes.Equal(got, q.want) || r.Left() != q.left || r.Err() != q.e {
			t.Errorf("Read(%v): Raw(%d): %v, %d left, error %d", q.b, q.n, got, r.Left(), r.Err())
		}
	}
	r := octet.Read([]byte{4, 5, 6})
	if a, b := r.Raw(1), r.Raw(2); !bytes.Equal(a, []byte{4}) || !bytes.Equal(b, []byte{5, 6}) {
		t.Errorf("one behind the other: %v, %v", a, b)
	}
}

// P1.3: a reader keeps no bytes that are handed in, and gives none that it keeps.
func TestReaderSharesNoMemory(t *testing.T) {
	b := roomy(1, 2, 3, 4)
	r, other := octet.Read(b), octet.Read(b)
	b[1] = 99
	got := r.Raw(2)
	if !bytes.Equal(got, []byte{1, 2}) {
		t.Errorf("the argument is kept: %v", got)
	}
	got = append(got, 88, 88)
	if x := r.U16(); x != 0x0304 {
		t.Errorf("what was given shares the reader's memory: %x", x)
	}
	if b[0] = 1; !untouched(b, 1, 99, 3, 4) {
		t.Errorf("the argument is changed: %v", b[:20])
	}
	if x := other.U32(); x != 0x01020304 {
		t.Errorf("two readers of the same bytes: %x", x)
	}
}

// checkStuck asks a stuck reader all that there is, twice.
func checkStuck(t *testing.T, name string, r *octet.Reader, left int, e api.Errno) {
	t.Helper()
	for range 2 {
		for _, n := range []int{-1, 0, 1, 2, 100} {
			if got := r.Raw(n); len(got) != 0 {
				t.Errorf("%s: Raw(%d): %v", name, n, got)
			}
		}
		if a, b, c, d := r.U8(), r.U16(), r.U32(), r.U64(); a != 0 || b != 0 || c != 0 || d != 0 {
			t.Errorf("%s: %d %d %d %d", name, a, b, c, d)
		}
		if r.Left() != left || r.Err() != e {
			t.Errorf("%s: %d left, error %d; want %d, %d", name, r.Left(), r.Err(), left, e)
		}
	}
}

// P1.3, P1.4: a stuck reader stays there, gives nothing, and keeps its first error.
func TestStuck(t *testing.T) {
	r := octet.Read([]byte{1, 2, 3, 4})
	r.U8()
	r.U32()
	checkStuck(t, "short of a number", r, 3, api.ErrShort)
	r = octet.Read([]byte{1, 2, 3, 4})
	r.Raw(5)
	checkStuck(t, "short of bytes", r, 4, api.ErrShort)
	r = octet.Read([]byte{1, 2, 3, 4})
	r.Raw(-1)
	checkStuck(t, "asked for fewer than none", r, 4, api.ErrArg)
	r = octet.Read(nil)
	r.U8()
	checkStuck(t, "of nothing", r, 0, api.ErrShort)
}

// P1.4: of nil the error is ErrNil, and all else nothing.
func TestNilReader(t *testing.T) {
	var r *octet.Reader
	checkStuck(t, "nil", r, 0, api.ErrNil)
}

// P1.5: a number stands as its upper half and then its lower one.
func TestHalves(t *testing.T) {
	for _, x := range numbers() {
		for _, b := range samples() {
			halves := octet.Put32(octet.Put32(b, uint32(x>>32)), uint32(x))
			if whole := octet.Put64(b, x); !bytes.Equal(whole, halves) {
				t.Fatalf("%x behind %v: %v, in halves %v", x, b, whole, halves)
			}
			y := uint32(x)
			halves = octet.Put16(octet.Put16(b, uint16(y>>16)), uint16(y))
			if whole := octet.Put32(b, y); !bytes.Equal(whole, halves) {
				t.Fatalf("%x behind %v: %v, in halves %v", y, b, whole, halves)
			}
		}
	}
}

// P1.5: what was put is read again; read in halves, too.
func TestPutAndRead(t *testing.T) {
	for _, x := range numbers() {
		for width, put := range puts() {
			b := put([]byte{9}, x)
			r := octet.Read(b)
			low := x << (64 - 8*width) >> (64 - 8*width)
			if a, y := r.U8(), asks()[width](r); a != 9 || y != low || r.Left() != 0 || r.Err() != api.OK {
				t.Fatalf("%x in %d bytes: %d, %x, %d left, error %d", x, width, a, y, r.Left(), r.Err())
			}
			r = octet.Read(b[1:])
			half := asks()[width/2]
			if hi, lo := half(r), half(r); hi<<(4*width)|lo != low {
				t.Fatalf("%x in %d bytes, in halves: %x, %x", x, width, hi, lo)
			}
		}
	}
}

// checkSame asks both readers the same, till both are stuck.
func checkSame(t *testing.T, a, b *octet.Reader, first int) {
	t.Helper()
	for i := range 12 {
		if a.Left() != b.Left() || a.Err() != b.Err() {
			t.Fatalf("%d and %d left, errors %d and %d", a.Left(), b.Left(), a.Err(), b.Err())
		}
		var same bool
		switch (first + i*3) % 5 {
		case 0:
			same = a.U8() == b.U8()
		case 1:
			same = a.U16() == b.U16()
		case 2:
			same = a.U32() == b.U32()
		case 3:
			same = bytes.Equal(a.Raw(i), b.Raw(i))
		case 4:
			same = a.U64() == b.U64()
		}
		if !same {
			t.Fatalf("question %d, from %d on: unlike answers", i, first)
		}
	}
}

// P1.5: a reader behind bytes tells what a reader of the rest tells.
func TestReaderOfTheRest(t *testing.T) {
	for _, b := range samples() {
		for n := range len(b) + 1 {
			for first := range 5 {
				r := octet.Read(b)
				if got := r.Raw(n); !bytes.Equal(got, b[:n]) {
					t.Fatalf("Raw(%d) of %v: %v", n, b, got)
				}
				checkSame(t, r, octet.Read(b[n:]), first)
			}
		}
	}
}

// P1.5: what is filled is read as it was, and then noughts, till the end.
func TestFillAndRead(t *testing.T) {
	for _, b := range samples() {
		for more := range 10 {
			filled, e := octet.Fill(b, len(b)+more)
			if e != api.OK {
				t.Fatalf("Fill(%v, %d): %d", b, len(b)+more, e)
			}
			r := octet.Read(filled)
			if got := r.Raw(len(b)); !bytes.Equal(got, b) {
				t.Fatalf("%v is read as %v", b, got)
			}
			for range more {
				if x := r.U8(); x != 0 || r.Err() != api.OK {
					t.Fatalf("behind %v: %d, error %d", b, x, r.Err())
				}
			}
			if r.U8(); r.Err() != api.ErrShort {
				t.Fatalf("behind the end: error %d", r.Err())
			}
		}
	}
}
