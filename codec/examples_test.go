package codec_test

import (
	"testing"

	"bursary/api"
	"bursary/codec"
)

// P6.2: the chapter's first example.
func TestExampleRow(t *testing.T) {
	b, e := codec.Row(at(1, 258, -1, "ab"))
	checkBytes(t, "Row(1, 258: -1, ab)", b, e, []byte{1, 1, 2, 0xFF, 0xFF, 0xFF, 0xFF, 0xFF, 0xFF, 0xFF, 0xFF, 2, 0x61, 0x62})
}

// P6.3: the chapter's second example.
func TestExampleOfNothing(t *testing.T) {
	b, e := codec.Content(api.Content{Kind: api.KindFree})
	checkBytes(t, "Content(free)", b, e, []byte{0})
	b, e = codec.Content(api.Content{Kind: api.KindLeaf})
	checkBytes(t, "Content(a leaf of nothing)", b, e, []byte{1, 0})
}

// P6.3: the chapter's third example.
func TestExampleKids(t *testing.T) {
	b, e := codec.Content(inner(on(0, 0, 3), on(0, 7, 5)))
	checkBytes(t, "Content(kids 3, and from 0 7 on 5)", b, e, []byte{2, 2, 0, 0, 0, 3, 0, 0, 7, 5})
}

// P6.3: the chapter's fourth example.
func TestExampleOfNoContent(t *testing.T) {
	noContent(t, []byte{3}, api.ErrCode)
	noContent(t, []byte{1, 5}, api.ErrCode)
	noContent(t, []byte{2, 1, 0, 0, 0, 3}, api.ErrCode)
}

// P6.2, P6.3: the chapter's fifth example.
func TestExampleOfEnds(t *testing.T) {
	noContent(t, []byte{1}, api.ErrShort)
	noRow(t, []byte{3}, api.ErrCode)
}
