package sum_test

import (
	"bytes"
	"hash/crc32"
	"math"
	"slices"
	"testing"

	"bursary/api"
	"bursary/sum"
)

// polynomial has its highest power, too.
const polynomial uint64 = 0x11EDC6F41

// bitsOf is the bits of the bytes, of each byte the lowest first.
func bitsOf(b []byte) []byte {
	var row []byte
	for _, x := range b {
		for i := range 8 {
			row = append(row, x>>i&1)
		}
	}
	return row
}

// divided is the sum of bytes as the chapter's words say it: a row of bits is divided, bit by bit. Of a short row some of the noughts behind it are among the first 32.
func divided(b []byte) uint32 {
	row := append(bitsOf(b), make([]byte, 32)...)
	for i := range 32 {
		row[i] ^= 1
	}
	for at := range len(row) - 32 {
		if row[at] == 0 {
			continue
		}
		for i := range 33 {
			row[at+i] ^= byte(polynomial >> (32 - i) & 1)
		}
	}
	var out uint32
	for i, bit := range row[len(row)-32:] {
		out |= uint32(bit^1) << i
	}
	return out
}

// lowestFirst is a number in four bytes.
func lowestFirst(x uint32) []byte {
	return []byte{byte(x), byte(x >> 8), byte(x >> 16), byte(x >> 24)}
}

// mixed is n bytes that look like none in particular; seed says which.
func mixed(n, seed int) []byte {
	b := make([]byte, n)
	x := uint32(seed*2654435761 + 12345)
	for i := range b {
		x = x*1664525 + 1013904223
		b[i] = byte(x >> 24)
	}
	return b
}

// samples are rows of all lengths up to a sector's and a bit more: of noughts, of ones, and mixed ones.
func samples() [][]byte {
	out := [][]byte{nil}
	for n := range api.Sector + 7 {
		out = append(out, make([]byte, n), bytes.Repeat([]byte{0xFF}, n), mixed(n, n), mixed(n, n+1000))
	}
	return out
}

// mark fills the room behind a list's end.
const mark = 0xEE

// roomy is b with room behind its end.
func roomy(b []byte) []byte {
	return slices.Concat(b, bytes.Repeat([]byte{mark}, 16))[:len(b)]
}

// checkUntouched asks whether a roomy list, and the room behind it, are as they were made.
func checkUntouched(t *testing.T, name string, b, want []byte) {
	t.Helper()
	if !bytes.Equal(b, want) || !bytes.Equal(b[len(b):len(b)+16], bytes.Repeat([]byte{mark}, 16)) {
		t.Fatalf("%s: %v is left of %v", name, b[:len(b)+16], want)
	}
}

// checkSum holds Sum32 against the division.
func checkSum(t *testing.T, b []byte) {
	t.Helper()
	if got, want := sum.Sum32(b), divided(b); got != want {
		t.Fatalf("Sum32(%v): %08X, want %08X", b, got, want)
	}
}

// checkCheck holds Check against what is wanted.
func checkCheck(t *testing.T, b []byte, want api.Errno) {
	t.Helper()
	if got := sum.Check(b); got != want {
		t.Fatalf("Check(%v): error %d, want %d", b, got, want)
	}
}

// P3.1: sums that are known elsewhere.
func TestKnownSums(t *testing.T) {
	rising := make([]byte, 32)
	for i := range rising {
		rising[i] = byte(i)
	}
	falling := slices.Clone(rising)
	slices.Reverse(falling)
	for _, q := range []struct {
		b    []byte
		want uint32
	}{
		{nil, 0},
		{[]byte{}, 0},
		{[]byte{0}, 0x527D5351},
		{[]byte("a"), 0xC1D04330},
		{[]byte("abc"), 0x364B3FB7},
		{make([]byte, 4), 0x48674BC7},
		{bytes.Repeat([]byte{0xFF}, 4), 0xFFFFFFFF},
		{[]byte("123456789"), 0xE3069283},
		{make([]byte, 32), 0x8A9136AA},
		{bytes.Repeat([]byte{0xFF}, 32), 0x62A8AB43},
		{rising, 0x46DD794E},
		{falling, 0x113FDB5C},
	} {
		if got := sum.Sum32(q.b); got != q.want {
			t.Errorf("Sum32(%v): %08X, want %08X", q.b, got, q.want)
		}
	}
}

// P3.1: the sum is what is left of the division, of rows of all lengths: none, shorter than 32 bits, just as long, longer.
func TestSumIsDivision(t *testing.T) {
	castagnoli := crc32.MakeTable(crc32.Castagnoli)
	for _, b := range append(samples(), mixed(1000, 1), mixed(4097, 2)) {
		checkSum(t, b)
		if got, want := sum.Sum32(b), crc32.Checksum(b, castagnoli); got != want {
			t.Fatalf("Sum32(%v): %08X, and the check of Castagnoli: %08X", b, got, want)
		}
	}
}

// P3.1: all rows of one byte and of two; of rows around 32 bits, all with one bit of their own.
func TestSumOfShortRows(t *testing.T) {
	for x := range 256 {
		checkSum(t, []byte{byte(x)})
		for y := range 256 {
			checkSum(t, []byte{byte(x), byte(y)})
		}
	}
	for n := range 6 {
		for _, fill := range []byte{0, 0xFF} {
			for at := range 8 * n {
				checkSum(t, turned(bytes.Repeat([]byte{fill}, n), at, 1))
			}
		}
	}
}

// P3.1: noughts count, wherever they stand, and so does the order.
func TestSumTellsApart(t *testing.T) {
	seen := map[uint32][]byte{}
	for n := range 70 {
		seen[sum.Sum32(make([]byte, n))] = make([]byte, n)
	}
	for _, b := range [][]byte{{1}, {1, 0}, {0, 1}, {1, 0, 0}, {0, 0, 1}, {1, 2, 3}, {3, 2, 1}, {1, 0, 0, 0, 0}, {0, 0, 0, 0, 1}} {
		if other, ok := seen[sum.Sum32(b)]; ok {
			t.Fatalf("%v and %v have one sum", b, other)
		}
		seen[sum.Sum32(b)] = b
	}
	if len(seen) != 79 {
		t.Fatalf("%d sums of 79 rows", len(seen))
	}
}

// bytesOf is four bytes that have this sum: each of their bits adds its own to the sum of noughts, and the bits that are needed are found by clearing the sum from the top.
func bytesOf(t *testing.T, want uint32) []byte {
	t.Helper()
	var adds, gives [32]uint32 // at each sum's highest bit: a sum, and the bits of the four bytes that add it
	for at := range 32 {
		add, give := divided(lowestFirst(1<<at))^divided(make([]byte, 4)), uint32(1)<<at
		for top := 31; top >= 0 && add != 0; top-- {
			if add>>top&1 == 0 {
				continue
			}
			if adds[top] == 0 {
				adds[top], gives[top] = add, give
				break
			}
			add, give = add^adds[top], give^gives[top]
		}
	}
	left, give := want^divided(make([]byte, 4)), uint32(0)
	for top := 31; top >= 0; top-- {
		if left>>top&1 == 1 {
			left, give = left^adds[top], give^gives[top]
		}
	}
	if divided(lowestFirst(give)) != want {
		t.Fatalf("no four bytes with the sum %08X", want)
	}
	return lowestFirst(give)
}

// P3.2: every cut of a row into two parts.
func TestJoinAtEveryCut(t *testing.T) {
	for _, b := range samples() {
		want := divided(b)
		for at := range len(b) + 1 {
			if got := sum.Join(sum.Sum32(b[:at]), b[at:]); got != want {
				t.Fatalf("%v, cut at %d: %08X, want %08X", b, at, got, want)
			}
		}
	}
}

// P3.2: every cut into three parts, and a row that is joined byte by byte.
func TestJoinInParts(t *testing.T) {
	for _, b := range [][]byte{mixed(9, 4), make([]byte, 9), mixed(20, 5)} {
		for last := range len(b) + 1 {
			for first := range last + 1 {
				if got := sum.Join(sum.Join(sum.Sum32(b[:first]), b[first:last]), b[last:]); got != divided(b) {
					t.Fatalf("%v, cut at %d and %d: %08X", b, first, last, got)
				}
			}
		}
		var got uint32
		for i := range b {
			got = sum.Join(got, b[i:i+1])
			if got != divided(b[:i+1]) {
				t.Fatalf("%v, joined up to %d: %08X", b, i, got)
			}
		}
	}
}

// P3.2: each number is the sum of some bytes; with b behind these the sum is the one that Join answers, with nothing behind them it stays.
func TestJoinOfAnySum(t *testing.T) {
	sums := []uint32{0, 1, math.MaxUint32, 0x80000000, 0x7FFFFFFF, 0xE3069283, 0x82F63B78}
	for i := range 32 {
		sums = append(sums, 1<<i, math.MaxUint32-1<<i, math.MaxUint32>>i)
	}
	for _, s := range sums {
		ahead := bytesOf(t, s)
		for _, b := range [][]byte{nil, {}, {0}, {0xFF}, mixed(3, 6), mixed(4, 7), mixed(5, 8), make([]byte, 9)} {
			if got, want := sum.Join(s, b), divided(slices.Concat(ahead, b)); got != want {
				t.Fatalf("Join(%08X, %v): %08X, want %08X", s, b, got, want)
			}
		}
		if got := sum.Join(s, nil); got != s {
			t.Fatalf("Join(%08X, none): %08X", s, got)
		}
	}
}

// P3.3: signed are the bytes, and their sum behind them, the lowest byte first.
func TestSign(t *testing.T) {
	for _, q := range []struct{ b, want []byte }{
		{nil, []byte{0, 0, 0, 0}},
		{[]byte{}, []byte{0, 0, 0, 0}},
		{[]byte{0}, []byte{0, 0x51, 0x53, 0x7D, 0x52}},
		{[]byte("abc"), []byte{'a', 'b', 'c', 0xB7, 0x3F, 0x4B, 0x36}},
		{make([]byte, 4), []byte{0, 0, 0, 0, 0xC7, 0x4B, 0x67, 0x48}},
	} {
		if got := sum.Sign(q.b); !bytes.Equal(got, q.want) {
			t.Errorf("Sign(%v): %v, want %v", q.b, got, q.want)
		}
	}
	for _, b := range samples() {
		if got, want := sum.Sign(b), slices.Concat(b, lowestFirst(divided(b))); !bytes.Equal(got, want) {
			t.Fatalf("Sign(%v): %v, want %v", b, got, want)
		}
	}
}

// P3.3, R3: what is signed is new memory; the bytes that are handed in, and the room behind them, stay.
func TestSignIsNewMemory(t *testing.T) {
	for _, want := range samples() {
		b := roomy(want)
		one := sum.Sign(b)
		first := slices.Clone(one)
		two := sum.Sign(b)
		checkUntouched(t, "Sign", b, want)
		clear(two)
		_ = append(two, 1, 2, 3, 4)
		checkUntouched(t, "what Sign answered is written over", b, want)
		if !bytes.Equal(one, first) {
			t.Fatalf("two answers of Sign(%v) share memory", want)
		}
		for i := range b {
			b[i]++
		}
		if !bytes.Equal(one, first) {
			t.Fatalf("Sign(%v) keeps its argument", want)
		}
	}
}

// R3: what is summed and checked, and the room behind it, stay, and the room is no part of it.
func TestNothingIsChanged(t *testing.T) {
	for _, want := range samples() {
		b := roomy(want)
		checkSum(t, b)
		if got := sum.Join(7, b); got != sum.Join(7, want) {
			t.Fatalf("Join(7, %v) sums the room behind its end: %08X", want, got)
		}
		sum.Check(b)
		checkUntouched(t, "Sum32, Join, Check", b, want)

		signed := sum.Sign(want)
		b = roomy(signed)
		checkCheck(t, b, api.OK)
		checkUntouched(t, "Check", b, signed)
		if b = b[:len(want)]; len(want) >= 4 && sum.Check(b) != sum.Check(slices.Clone(want)) {
			t.Fatalf("Check(%v) reads behind its end", want)
		}
	}
}

// P3.3: what is signed is OK, once or several times over.
func TestCheckOfSigned(t *testing.T) {
	for _, b := range samples() {
		for range 3 {
			b = slices.Concat(b, lowestFirst(divided(b)))
			checkCheck(t, b, api.OK)
		}
	}
}

// P3.3: with fewer than four bytes there is no sum: one byte of all values, two and three of some.
func TestCheckOfTooShort(t *testing.T) {
	checkCheck(t, nil, api.ErrSum)
	checkCheck(t, []byte{}, api.ErrSum)
	for x := range 256 {
		checkCheck(t, []byte{byte(x)}, api.ErrSum)
		checkCheck(t, []byte{byte(x), 0}, api.ErrSum)
		checkCheck(t, []byte{0, byte(x)}, api.ErrSum)
		checkCheck(t, []byte{0, 0, byte(x)}, api.ErrSum)
		checkCheck(t, []byte{byte(x), byte(x), byte(x)}, api.ErrSum)
	}
	for _, b := range [][]byte{nil, {0}, {1, 2, 3}, mixed(9, 9)} {
		signed := sum.Sign(b)
		for n := range 4 {
			checkCheck(t, signed[:n], api.ErrSum) // the rest stands in the room behind its end
			checkCheck(t, signed[len(signed)-n:], api.ErrSum)
		}
	}
}

// P3.3: of four bytes only noughts are signed, for nothing is ahead of them.
func TestCheckOfFour(t *testing.T) {
	checkCheck(t, make([]byte, 4), api.OK)
	for at := range 4 {
		for x := 1; x < 256; x++ {
			b := make([]byte, 4)
			b[at] = byte(x)
			checkCheck(t, b, api.ErrSum)
		}
	}
	checkCheck(t, bytes.Repeat([]byte{0xFF}, 4), api.ErrSum)
}

// P3.3: one bit that is turned, at each of its places, in the sum and ahead of it.
func TestCheckOfOneTurnedBit(t *testing.T) {
	for _, b := range samples() {
		signed := slices.Concat(b, lowestFirst(divided(b)))
		for at := range 8 * len(signed) {
			checkCheck(t, turned(signed, at, 1), api.ErrSum)
		}
	}
}

// P3.3: a sum that stands the other way round, that is turned, that stands ahead, that is of other bytes, or that stands a byte too early.
func TestCheckOfWrongSums(t *testing.T) {
	for _, n := range []int{1, 2, 3, 4, 5, 31, 32, 33, 60, 64} {
		b := mixed(n, n)
		right := lowestFirst(divided(b))
		around := slices.Clone(right)
		slices.Reverse(around)
		for name, wrong := range map[string][]byte{
			"the other way round": slices.Concat(b, around),
			"turned":              slices.Concat(b, lowestFirst(^divided(b))),
			"ahead":               slices.Concat(right, b),
			"of one byte less":    slices.Concat(b, lowestFirst(divided(b[1:]))),
			"none":                slices.Concat(b, make([]byte, 4)),
			"a byte too early":    slices.Concat(b, right, []byte{0}),
			"a byte too late":     slices.Concat(b, []byte{0}, right),
			"cut short":           slices.Concat(b, right[:3]),
		} {
			if got := sum.Check(wrong); got != api.ErrSum {
				t.Errorf("%d bytes, the sum %s: error %d", n, name, got)
			}
		}
	}
}

// R5: what is answered hangs on the arguments alone, not on calls ahead of it.
func TestSameArgumentsSameAnswers(t *testing.T) {
	rows := samples()
	var first []uint32
	for _, b := range rows {
		first = append(first, sum.Sum32(b))
	}
	for i := len(rows) - 1; i >= 0; i-- {
		sum.Sign(rows[(i*7+3)%len(rows)])
		sum.Check(rows[(i*5+1)%len(rows)])
		if got := sum.Sum32(rows[i]); got != first[i] {
			t.Fatalf("Sum32(%v): %08X, and then %08X", rows[i], first[i], got)
		}
	}
}

// R3: nil and empty lists are one.
func TestNilIsEmpty(t *testing.T) {
	for _, s := range []uint32{0, 1, math.MaxUint32} {
		if sum.Join(s, nil) != sum.Join(s, []byte{}) {
			t.Errorf("Join(%d) of nil and of an empty list", s)
		}
	}
	if sum.Sum32(nil) != sum.Sum32([]byte{}) || sum.Check(nil) != sum.Check([]byte{}) || !bytes.Equal(sum.Sign(nil), sum.Sign([]byte{})) {
		t.Error("nil and an empty list are not one")
	}
}
