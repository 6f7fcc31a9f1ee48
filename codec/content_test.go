package codec_test

import (
	"bytes"
	"slices"
	"testing"

	"bursary/api"
	"bursary/codec"
)

// laidContent is how the chapter says that a content stands.
func laidContent(c api.Content) []byte {
	out := []byte{byte(c.Kind)}
	if c.Kind == api.KindLeaf {
		out = append(out, byte(len(c.Rows)))
	}
	if c.Kind == api.KindInner {
		out = append(out, byte(len(c.Kids)))
	}
	for _, r := range c.Rows {
		out = append(out, laidRow(r)...)
	}
	for _, k := range c.Kids {
		out = append(out, byte(k.Least.Table), byte(k.Least.Id/256), byte(k.Least.Id%256), byte(k.Page))
	}
	return out
}

// takenContent is what TakeContent is to say of bytes, by their places, and how many bytes the content has.
func takenContent(b []byte) (int, api.Errno) {
	switch {
	case len(b) == 0:
		return 0, api.ErrShort
	case b[0] == 0:
		return 1, api.OK
	case b[0] > 2:
		return 0, api.ErrCode
	case len(b) == 1:
		return 0, api.ErrShort
	case b[1] > 4:
		return 0, api.ErrCode
	case b[0] == 1:
		return takenLeaf(b)
	case len(b) < 2+4*int(b[1]):
		return 0, api.ErrShort
	case b[1] < 2 || !kidsMayBe(b[2:2+4*int(b[1])]):
		return 0, api.ErrCode
	}
	return 2 + 4*int(b[1]), api.OK
}

// takenLeaf is takenContent of a leaf; keys that stand highest first rise as their bytes do.
func takenLeaf(b []byte) (int, api.Errno) {
	size := 2
	var keys [][]byte
	for range b[1] {
		n, e := takenRow(b[size:])
		if e != api.OK {
			return 0, e
		}
		keys = append(keys, b[size:size+3])
		size += n
	}
	if !rising(keys) {
		return 0, api.ErrCode
	}
	return size, api.OK
}

// kidsMayBe says whether kids may be that stand in four bytes each.
func kidsMayBe(b []byte) bool {
	var keys [][]byte
	pages := map[byte]int{}
	for kid := range slices.Chunk(b, 4) {
		if kid[0] > 2 || kid[3] < 1 || kid[3] > 63 {
			return false
		}
		keys = append(keys, kid[:3])
		pages[kid[3]]++
	}
	return bytes.Equal(keys[0], make([]byte, 3)) && rising(keys) && len(pages) == len(keys)
}

// rising says whether texts rise, none twice.
func rising(keys [][]byte) bool {
	for i := 1; i < len(keys); i++ {
		if bytes.Compare(keys[i-1], keys[i]) >= 0 {
			return false
		}
	}
	return true
}

// P6.3: a content's bytes, and the errors of those that may not be.
func TestContent(t *testing.T) {
	longest := 0
	for _, c := range goodContents() {
		b, e := codec.Content(c)
		checkBytes(t, "Content", b, e, laidContent(c))
		longest = max(longest, len(b))
	}
	if longest != api.MaxContent {
		t.Fatalf("the longest has %d bytes", longest)
	}
	for name, c := range badContents() {
		if b, e := codec.Content(c); e != api.ErrContent || len(b) != 0 {
			t.Fatalf("%s: Content: % X, error %d", name, b, e)
		}
	}
	for _, kind := range []int{-256, -255, -1, 3, 256, 257, 258, 1 << 32} {
		if b, e := codec.Content(api.Content{Kind: kind}); e != api.ErrContent || len(b) != 0 {
			t.Fatalf("Content of the Kind %d: % X, error %d", kind, b, e)
		}
	}
}

// P6.3: some contents, written out, and taken.
func TestContentWrittenOut(t *testing.T) {
	for _, q := range []struct {
		c    api.Content
		want []byte
	}{
		{free, bytesOf(0)},
		{leaf(), bytesOf(1, 0)},
		{leaf(api.Row{}), bytesOf(1, 1, make([]byte, 12))},
		{leaf(at(0, 258, 5, "ab"), at(2, 65535, -1, "")), bytesOf(1, 2, 0, 1, 2, val(5), 2, "ab", 2, 255, 255, bytes.Repeat([]byte{255}, 8), 0)},
		{inner(on(0, 0, 3), on(0, 7, 5)), bytesOf(2, 2, 0, 0, 0, 3, 0, 0, 7, 5)},
		{inner(on(0, 0, 63), on(0, 256, 1), on(1, 0, 62), on(2, 65535, 2)), bytesOf(2, 4, 0, 0, 0, 63, 0, 1, 0, 1, 1, 0, 0, 62, 2, 255, 255, 2)},
	} {
		b, e := codec.Content(q.c)
		checkBytes(t, "Content", b, e, q.want)
		tookContent(t, q.want, q.c, len(q.want))
	}
}

// P6.3: bytes that are cut off at each place, and bytes with others behind them.
func TestTakeContent(t *testing.T) {
	for _, c := range goodContents() {
		b := laidContent(c)
		for n := range b {
			noContent(t, b[:n], api.ErrShort)
		}
		for _, more := range behind() {
			tookContent(t, bytesOf(b, more), c, len(b))
		}
	}
}

// P6.3: bytes of what may not be, all of them there, are ErrCode, and so they are with others behind.
func TestTakeContentOfBadContents(t *testing.T) {
	for name, c := range badContents() {
		if !standsInBytes(c) {
			continue
		}
		for _, more := range behind() {
			b := bytesOf(laidContent(c), more)
			if r, n, e := codec.TakeContent(b); e != api.ErrCode || n != 0 || !alike(r, api.Content{}) {
				t.Fatalf("%s: TakeContent(% X): %v, %d bytes, error %d", name, b, r, n, e)
			}
		}
	}
}

// standsInBytes says whether a content has just the parts of its Kind, and numbers that stand in a byte each.
func standsInBytes(c api.Content) bool {
	for _, k := range c.Kids {
		if k.Page < 0 || k.Page > 255 || k.Least.Table < 0 || k.Least.Table > 255 {
			return false
		}
	}
	if len(c.Rows) > 255 || len(c.Kids) > 255 {
		return false
	}
	return c.Kind == api.KindLeaf && len(c.Kids) == 0 || c.Kind == api.KindInner && len(c.Rows) == 0
}

// P6.3: what is met first, from the front on.
func TestTakeContentErrorsInOrder(t *testing.T) {
	row := bytesOf(1, 0, 7, val(4), 2, "ab")
	next := bytesOf(1, 0, 8, val(4), 0)
	for _, q := range []struct {
		b []byte
		e api.Errno
	}{
		{nil, api.ErrShort},
		{bytesOf(3), api.ErrCode},
		{bytesOf(255), api.ErrCode},
		{bytesOf(3, 0), api.ErrCode},
		{bytesOf(1), api.ErrShort},
		{bytesOf(2), api.ErrShort},
		// how many there are, ahead of the end
		{bytesOf(1, 5), api.ErrCode},
		{bytesOf(1, 255), api.ErrCode},
		{bytesOf(1, 5, 3), api.ErrCode},
		{bytesOf(2, 5), api.ErrCode},
		{bytesOf(2, 255), api.ErrCode},
		{bytesOf(2, 5, 0, 0, 0, 1), api.ErrCode},
		{bytesOf(1, 4), api.ErrShort},
		{bytesOf(2, 4), api.ErrShort},
		{bytesOf(2, 2), api.ErrShort},
		// too few kids are seen behind all of them
		{bytesOf(2, 0), api.ErrCode},
		{bytesOf(2, 0, 7), api.ErrCode},
		{bytesOf(2, 1), api.ErrShort},
		{bytesOf(2, 1, 0), api.ErrShort},
		{bytesOf(2, 1, 0, 0, 0), api.ErrShort},
		{bytesOf(2, 1, 0, 0, 0, 3), api.ErrCode},
		// a row's error, ahead of what follows it
		{bytesOf(1, 1, 3), api.ErrCode},
		{bytesOf(1, 4, 3), api.ErrCode},
		{bytesOf(1, 1, 2), api.ErrShort},
		{bytesOf(1, 1, 1, 0, 7, val(4)), api.ErrShort},
		{bytesOf(1, 1, 1, 0, 7, val(4), 9), api.ErrCode},
		{bytesOf(1, 1, 1, 0, 7, val(4), 9, "123456789"), api.ErrCode},
		{bytesOf(1, 1, 1, 0, 7, val(4), 2, "a"), api.ErrShort},
		{bytesOf(1, 2, row), api.ErrShort},
		{bytesOf(1, 2, row, 3), api.ErrCode},
		{bytesOf(1, 2, row, next[:11]), api.ErrShort},
		{bytesOf(1, 2, row, next[:11], 9), api.ErrCode},
		{bytesOf(1, 3, row, next), api.ErrShort},
		// what is out of order is seen behind all of it
		{bytesOf(1, 2, next, row), api.ErrCode},
		{bytesOf(1, 2, next, row[:13]), api.ErrShort},
		{bytesOf(1, 3, next, row), api.ErrShort},
		{bytesOf(1, 2, row, row), api.ErrCode},
		{bytesOf(1, 3, row, row), api.ErrShort},
		{bytesOf(1, 2, row, row[:11]), api.ErrShort},
		{bytesOf(1, 3, row, row, 3), api.ErrCode},
		// a kid that may not be is seen behind all of them
		{bytesOf(2, 2, 0, 0, 1), api.ErrShort},
		{bytesOf(2, 2, 0, 0, 1, 3, 0, 0, 7), api.ErrShort},
		{bytesOf(2, 2, 0, 0, 1, 3, 0, 0, 7, 5), api.ErrCode},
		{bytesOf(2, 2, 3, 0, 0, 3), api.ErrShort},
		{bytesOf(2, 2, 0, 0, 0, 3, 3), api.ErrShort},
		{bytesOf(2, 2, 0, 0, 0, 3, 3, 0, 0), api.ErrShort},
		{bytesOf(2, 2, 0, 0, 0, 3, 3, 0, 0, 5), api.ErrCode},
		{bytesOf(2, 2, 0, 0, 0, 0), api.ErrShort},
		{bytesOf(2, 2, 0, 0, 0, 0, 0, 0, 7, 5), api.ErrCode},
		{bytesOf(2, 2, 0, 0, 0, 64, 0, 0, 7), api.ErrShort},
		{bytesOf(2, 2, 0, 0, 0, 64, 0, 0, 7, 5), api.ErrCode},
		{bytesOf(2, 2, 0, 0, 0, 3, 0, 0, 7, 3), api.ErrCode},
		{bytesOf(2, 2, 0, 0, 0, 3, 0, 0, 0, 5), api.ErrCode},
		{bytesOf(2, 3, 0, 0, 0, 3, 0, 0, 7, 5, 0, 0, 6, 4), api.ErrCode},
		{bytesOf(2, 3, 0, 0, 0, 3, 0, 0, 7, 5, 0, 0, 6), api.ErrShort},
	} {
		noContent(t, q.b, q.e)
	}
}

// checkTaken holds TakeContent of whatever bytes against takenContent.
func checkTaken(t *testing.T, b []byte) api.Errno {
	t.Helper()
	size, want := takenContent(b)
	if want != api.OK {
		noContent(t, b, want)
		return want
	}
	c, n, e := codec.TakeContent(b)
	expect(t, "TakeContent", e, api.OK)
	if n != size || !bytes.Equal(laidContent(c), b[:size]) {
		t.Fatalf("TakeContent(% X): %v, %d bytes, want %d", b, c, n, size)
	}
	return want
}

// P6.3: each row of bytes of a Kind, and of how many parts, with noughts, and with other bytes behind.
func TestTakeContentOfEachBeginning(t *testing.T) {
	checkTaken(t, nil)
	for kind := range 256 {
		checkTaken(t, bytesOf(kind))
		for n := range 256 {
			for _, more := range behind() {
				checkTaken(t, bytesOf(kind, n, more))
			}
		}
	}
}

// P6.3: bytes of contents of which one, or two, are other ones, or are gone.
func TestTakeContentOfTurnedBytes(t *testing.T) {
	var x chance
	seen := map[api.Errno]int{}
	all := append(goodContents(), fullLeaf(5), fullInner(5))
	for _, n := range []int{2, 3, 4, 2, 3, 4, 2, 3, 4} {
		all = append(all, slices.Repeat([]api.Content{fullLeaf(n), fullInner(n)}, 200)...)
	}
	for _, c := range all {
		for range 10 {
			b := laidContent(c)
			for range 1 + x.below(2) {
				b[x.below(len(b))] = byte([]int{0, 1, 2, 3, 4, 8, 9, 63, 64, 255, x.below(256)}[x.below(11)])
			}
			if x.below(3) == 0 {
				i := x.below(len(b))
				b = slices.Delete(b, i, i+1)
			}
			seen[checkTaken(t, b)]++
			seen[checkTaken(t, bytesOf(b, long(30)))]++
		}
	}
	for _, e := range []api.Errno{api.OK, api.ErrShort, api.ErrCode} {
		if seen[e] < 1000 {
			t.Fatalf("answers: %v", seen)
		}
	}
}

// R3: what is handed in stays, and what was answered shares no memory with it, nor with another answer.
func TestContentsShareNoMemory(t *testing.T) {
	for _, c := range []api.Content{free, leaf(), fullLeaf(1), fullLeaf(3), fullLeaf(4), fullInner(2), fullInner(3), fullInner(4)} {
		want, in := laidContent(c), cloned(c)
		in.Rows, in.Kids = append(in.Rows, at(7, 7, 7, "room"))[:len(c.Rows)], append(in.Kids, on(7, 7, 7))[:len(c.Kids)]
		one, two := contentBytes(t, in), contentBytes(t, in)
		if !alike(in, c) || in.Rows[:len(c.Rows)+1][len(c.Rows)] != at(7, 7, 7, "room") || in.Kids[:len(c.Kids)+1][len(c.Kids)] != on(7, 7, 7) {
			t.Fatalf("%v is left of %v", in, c)
		}
		overwrite(one)
		checkBytes(t, "a later answer", two, api.OK, want)
		checkBytes(t, "asked once more", contentBytes(t, in), api.OK, want)
		overwriteContent(in)
		checkBytes(t, "behind a change of the content", two, api.OK, want)
		takeTwice(t, want, c)
	}
}

// takeTwice takes a content twice, and changes bytes and answers ahead of looking at them.
func takeTwice(t *testing.T, b []byte, want api.Content) {
	t.Helper()
	in := roomy(b)
	one, _, e := codec.TakeContent(in)
	expect(t, "TakeContent", e, api.OK)
	two, _, e := codec.TakeContent(in)
	expect(t, "TakeContent", e, api.OK)
	overwriteContent(one)
	checkUntouched(t, in, b)
	tookContent(t, in, want, len(b))
	overwrite(in)
	if !alike(two, want) {
		t.Fatalf("%v, behind changes of the bytes and of another answer: %v", want, two)
	}
}
