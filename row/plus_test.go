package row_test

import (
	"math"
	"math/big"
	"testing"

	"bursary/row"
)

// checkPlus holds Plus against numbers that have no end.
func checkPlus(t *testing.T, a, b int64) {
	t.Helper()
	sum := new(big.Int).Add(big.NewInt(a), big.NewInt(b))
	var want int64
	if sum.IsInt64() {
		want = sum.Int64()
	}
	if got, fits := row.Plus(a, b); got != want || fits != sum.IsInt64() {
		t.Fatalf("Plus(%d, %d): %d, %t; it is %s", a, b, got, fits, sum)
	}
}

// P5.4: all pairs of numbers around nought, around all powers of two, and at both ends.
func TestPlus(t *testing.T) {
	var some []int64
	for i := int64(-3); i <= 3; i++ {
		some = append(some, i, math.MaxInt64+min(i, 0), math.MinInt64+max(i, 0), math.MaxInt64/2+i, math.MinInt64/2+i)
	}
	for i := range 63 {
		some = append(some, 1<<i, 1<<i-1, -1<<i, -1<<i-1)
	}
	for _, a := range some {
		for _, b := range some {
			checkPlus(t, a, b)
		}
	}
}

// P5.4: both ends, each by the last sum that fits and the first that does not.
func TestPlusAtBothEnds(t *testing.T) {
	const least, most = math.MinInt64, math.MaxInt64
	for _, q := range []struct {
		a, b, want int64
		fits       bool
	}{
		{most, 0, most, true}, {most, 1, 0, false}, {most, -1, most - 1, true}, {most - 1, 1, most, true}, {most - 1, 2, 0, false},
		{least, 0, least, true}, {least, -1, 0, false}, {least, 1, least + 1, true}, {least + 1, -1, least, true}, {least + 1, -2, 0, false},
		{most, least, -1, true}, {most, most, 0, false}, {least, least, 0, false}, {least / 2, least / 2, least, true}, {least / 2, least/2 - 1, 0, false},
		{most/2 + 1, most / 2, most, true}, {most/2 + 1, most/2 + 1, 0, false}, {least, most, -1, true}, {least + 1, most, 0, true},
		{0, 0, 0, true}, {-1, 1, 0, true}, {2, 3, 5, true}, {-2, -3, -5, true},
	} {
		for range 2 {
			if got, fits := row.Plus(q.a, q.b); got != q.want || fits != q.fits {
				t.Errorf("Plus(%d, %d): %d, %t, want %d, %t", q.a, q.b, got, fits, q.want, q.fits)
			}
			q.a, q.b = q.b, q.a
		}
	}
}
