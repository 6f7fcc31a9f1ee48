package escrow

import (
	"cmp"
	"math/bits"

	"bursary/api"
)

// wide is a number of 128 bits, in which no sum of a value and all its shares goes round.
type wide struct {
	high int64
	low  uint64
}

// widen is a number of 64 bits as one of 128.
func widen(n int64) wide {
	return wide{high: n >> 63, low: uint64(n)}
}

// total is all these numbers together.
func total(parts ...int64) wide {
	var out wide
	for _, n := range parts {
		part := widen(n)
		low, carry := bits.Add64(out.low, part.low, 0)
		out = wide{high: out.high + part.high + int64(carry), low: low}
	}
	return out
}

// narrow is a number that fits 64 bits as one of these.
func (w wide) narrow() int64 {
	return int64(w.low)
}

// fits says whether the number fits 64 bits.
func (w wide) fits() bool {
	return w == widen(w.narrow())
}

// less says whether the number is less than another one.
func (w wide) less(other wide) bool {
	return cmp.Or(cmp.Compare(w.high, other.high), cmp.Compare(w.low, other.low)) < 0
}

// end is a pending key's value together with one number of each share.
func end(p api.Pending, of func(s api.Share) int64) wide {
	parts := []int64{p.Value}
	for _, s := range p.Shares {
		parts = append(parts, of(s))
	}
	return total(parts...)
}

// lo is a share's least sum.
func lo(s api.Share) int64 { return s.Lo }

// sum is a share's sum.
func sum(s api.Share) int64 { return s.Sum }

// hi is a share's greatest sum.
func hi(s api.Share) int64 { return s.Hi }
