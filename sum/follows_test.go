package sum_test

import (
	"math"
	"math/bits"
	"slices"
	"testing"

	"bursary/api"
	"bursary/sum"
)

// turned is b with some bits turned: those of a pattern, its lowest one at the place at, in the order of the row of bits.
func turned(b []byte, at int, pattern uint64) []byte {
	out := slices.Clone(b)
	for i := range bits.Len64(pattern) {
		if pattern>>i&1 == 1 {
			out[(at+i)/8] ^= 1 << ((at + i) % 8)
		}
	}
	return out
}

// added is rows of one length, added bit by bit.
func added(a, b, c []byte) []byte {
	out := make([]byte, len(a))
	for i := range out {
		out[i] = a[i] ^ b[i] ^ c[i]
	}
	return out
}

// P3.4: the sums of three rows of one length, added, are the sum of the three rows, added; rows that are the same, too.
func TestThreeRows(t *testing.T) {
	for n := range 70 {
		ones := slices.Repeat([]byte{0xFF}, n)
		rows := [][]byte{make([]byte, n), ones, mixed(n, 1), mixed(n, 2), mixed(n, 3)}
		for _, a := range rows {
			for _, b := range rows {
				for _, c := range rows {
					got := sum.Sum32(a) ^ sum.Sum32(b) ^ sum.Sum32(c)
					if want := sum.Sum32(added(a, b, c)); got != want {
						t.Fatalf("%v, %v, %v: %08X, and added %08X", a, b, c, got, want)
					}
				}
			}
		}
	}
}

// P3.4: three rows whose bits all differ from each other's, bit by bit.
func TestThreeRowsOfOneBit(t *testing.T) {
	const n = 6
	none := make([]byte, n)
	for i := range 8 * n {
		for j := range 8 * n {
			a, b, c := turned(none, i, 1), turned(none, j, 1), turned(none, (i+j)%(8*n), 1)
			if got, want := sum.Sum32(a)^sum.Sum32(b)^sum.Sum32(c), sum.Sum32(added(a, b, c)); got != want {
				t.Fatalf("the bits %d, %d, %d: %08X, and added %08X", i, j, (i+j)%(8*n), got, want)
			}
		}
	}
}

// P3.4: all that is signed has the sum of nothing signed, and what has that sum is signed.
func TestSumOfSigned(t *testing.T) {
	want := sum.Sum32(make([]byte, 4))
	for _, b := range samples() {
		signed := sum.Sign(b)
		if got := sum.Sum32(signed); got != want {
			t.Fatalf("%v, signed: %08X, want %08X", b, got, want)
		}
		if got := sum.Sum32(sum.Sign(signed)); got != want {
			t.Fatalf("%v, signed twice: %08X, want %08X", b, got, want)
		}
		if len(b) >= 4 && (sum.Sum32(b) == want) != (sum.Check(b) == api.OK) {
			t.Fatalf("%v has the sum %08X, and Check: %d", b, sum.Sum32(b), sum.Check(b))
		}
	}
}

// patterns are bits whose first and last are span-1 apart: all such where there are few, else some, those of the polynomial among them.
func patterns(span int) []uint64 {
	if span == 1 {
		return []uint64{1}
	}
	ends := uint64(1)<<(span-1) | 1
	if span <= 7 {
		var out []uint64
		for within := range uint64(1) << (span - 2) {
			out = append(out, ends|within<<1)
		}
		return out
	}
	within := ends - 2 // all bits between both ends
	out := []uint64{ends, ends | within}
	for _, x := range []uint64{0x5555555555555555, 0xAAAAAAAAAAAAAAAA, 0x1EDC6F41, 0x82F63B78, 0x105EC76F1, 0x123456789ABCDEF} {
		out = append(out, ends|x&within)
	}
	for i := 1; i < span-1; i++ {
		out = append(out, ends|1<<i)
	}
	return out
}

// eachBurst hands on all rows that are b with bits turned that all stand within span.
func eachBurst(b []byte, span int, use func(other []byte)) {
	for _, pattern := range patterns(span) {
		for at := range 8*len(b) - span + 1 {
			use(turned(b, at, pattern))
		}
	}
}

// P3.4: bits that are turned, all within 32, change the sum: spans of all lengths up to 32, at all places.
func TestTurnedBitsChangeTheSum(t *testing.T) {
	for _, n := range []int{1, 3, 4, 5, 9} {
		for _, b := range [][]byte{make([]byte, n), mixed(n, 4)} {
			was := sum.Sum32(b)
			for span := 1; span <= min(32, 8*n); span++ {
				eachBurst(b, span, func(other []byte) {
					if sum.Sum32(other) == was {
						t.Fatalf("%v and %v, unlike within %d bits: both %08X", b, other, span, was)
					}
				})
			}
		}
	}
}

// P3.4: just as many bits as 32, and one less, in a whole sector.
func TestTurnedBitsOfASector(t *testing.T) {
	b := mixed(api.Sector, 5)
	was := sum.Sum32(b)
	for _, span := range []int{31, 32} {
		eachBurst(b, span, func(other []byte) {
			if sum.Sum32(other) == was {
				t.Fatalf("%v, unlike within %d bits: %08X", other, span, was)
			}
		})
	}
}

// P3.3, P3.4: the same of what is signed, across the place where the sum begins, too.
func TestTurnedBitsOfSigned(t *testing.T) {
	for _, n := range []int{0, 1, 3, 4, 5, 8} {
		signed := sum.Sign(mixed(n, 6))
		for span := 1; span <= min(32, 8*len(signed)); span++ {
			eachBurst(signed, span, func(other []byte) {
				checkCheck(t, other, api.ErrSum)
			})
		}
	}
}

// P3.1, P3.4: within 33 bits the polynomial itself can be turned, and it alone is not seen: 32 bits are as many as there can be.
func TestThePolynomialIsNotSeen(t *testing.T) {
	unseen := bits.Reverse64(polynomial) >> (64 - 33) // its highest power stands first in the row
	for _, n := range []int{5, 6, 9, 64} {
		b := mixed(n, 7)
		for at := range 8*n - 32 {
			if got := sum.Sum32(turned(b, at, unseen)); got != sum.Sum32(b) {
				t.Fatalf("the polynomial turned at %d of %d bytes: %08X", at, n, got)
			}
			if got := sum.Sum32(turned(b, at, unseen^math.MaxUint16<<8)); got == sum.Sum32(b) {
				t.Fatalf("other bits turned at %d of %d bytes: %08X", at, n, got)
			}
		}
	}
}
