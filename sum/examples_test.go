package sum_test

import (
	"testing"

	"bursary/api"
	"bursary/sum"
)

// P3.1: the chapter's first example.
func TestExampleSum(t *testing.T) {
	b := []byte{0x31, 0x32, 0x33, 0x34, 0x35, 0x36, 0x37, 0x38, 0x39}
	if got := sum.Sum32(b); got != 0xE3069283 {
		t.Errorf("Sum32 of the bytes 31 to 39: %08X", got)
	}
}

// P3.1, P3.2: the chapter's second example.
func TestExampleNone(t *testing.T) {
	if a, b := sum.Sum32(nil), sum.Join(0, nil); a != 0 || b != 0 {
		t.Errorf("Sum32(none), Join(0, none): %08X, %08X", a, b)
	}
}

// P3.3: the chapter's third example.
func TestExampleCheck(t *testing.T) {
	checkCheck(t, []byte{0, 0, 0, 0}, api.OK)
	checkCheck(t, []byte{0, 0, 0, 1}, api.ErrSum)
	for _, b := range [][]byte{{0, 0, 0}, {1, 2, 3}, {0xFF, 0xFF, 0xFF}} {
		checkCheck(t, b, api.ErrSum)
	}
}
