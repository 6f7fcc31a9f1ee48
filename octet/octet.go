// Package octet is layer 1: numbers as bytes, and a reader that gives them back. See 01-octet.md.
package octet

import (
	"bytes"

	"bursary/api"
)

// maxFill is how many bytes one answer may have: nothing is promised beyond, and no memory is asked for that.
const maxFill = 1<<31 - 1

// ahead is the bytes that were not given yet.
type ahead []byte

// Reader gives the bytes ahead of it, till it is stuck.
type Reader struct {
	ahead
	err api.Errno
}

// Put16 is b, and x behind it in two bytes.
func Put16(b []byte, x uint16) []byte {
	return put(b, uint64(x), 2)
}

// Put32 is b, and x behind it in four bytes.
func Put32(b []byte, x uint32) []byte {
	return put(b, uint64(x), 4)
}

// Put64 is b, and x behind it in eight bytes.
func Put64(b []byte, x uint64) []byte {
	return put(b, x, 8)
}

// put writes into new memory: to append to b would write into the room behind its end.
func put(b []byte, x uint64, width int) []byte {
	out := make([]byte, len(b)+width)
	copy(out, b)
	for i := range width {
		out[len(out)-1-i] = byte(x >> (8 * i))
	}
	return out
}

// Fill is b, and noughts behind it, n bytes in all.
func Fill(b []byte, n int) ([]byte, api.Errno) {
	if n < 0 {
		return nil, api.ErrArg
	}
	if len(b) > n || n > maxFill {
		return nil, api.ErrLong
	}
	out := make([]byte, n)
	copy(out, b)
	return out, api.OK
}

// Read is a reader ahead of the first byte of b, of which it keeps a copy.
func Read(b []byte) *Reader {
	return &Reader{ahead: bytes.Clone(b)}
}

// U8 is the number in the next byte.
func (r *Reader) U8() byte {
	return byte(r.number(1))
}

// U16 is the number in the next two bytes.
func (r *Reader) U16() uint16 {
	return uint16(r.number(2))
}

// U32 is the number in the next four bytes.
func (r *Reader) U32() uint32 {
	return uint32(r.number(4))
}

// U64 is the number in the next eight bytes.
func (r *Reader) U64() uint64 {
	return r.number(8)
}

// Raw is the next n bytes.
func (r *Reader) Raw(n int) []byte {
	var out []byte
	r.give(n, func(b []byte) { out = bytes.Clone(b) })
	return out
}

// Left is how many bytes are ahead of the reader.
func (r *Reader) Left() int {
	if r == nil {
		return 0
	}
	return len(r.ahead)
}

// Err is what the reader is stuck with.
func (r *Reader) Err() api.Errno {
	if r == nil {
		return api.ErrNil
	}
	return r.err
}

// number is the number that stands in the next width bytes.
func (r *Reader) number(width int) uint64 {
	var x uint64
	r.give(width, func(b []byte) {
		for i := range width {
			x = x<<8 | uint64(b[i])
		}
	})
	return x
}

// give hands the next n bytes to use and goes behind them. Where it can't it is stuck, and use is not called, so that the caller's nought stays.
func (r *Reader) give(n int, use func(b []byte)) {
	if r == nil || r.err != api.OK {
		return
	}
	if n < 0 {
		r.err = api.ErrArg
		return
	}
	if n > len(r.ahead) {
		r.err = api.ErrShort
		return
	}
	use(r.ahead[:n])
	r.ahead = r.ahead[n:]
}
