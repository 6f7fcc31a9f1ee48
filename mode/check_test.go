package mode_test

import (
	"slices"
	"testing"

	"bursary/api"
	"bursary/mode"
)

// The chapter's numbers of the modes, by which the other tests name them.
func TestNumbers(t *testing.T) {
	if !slices.Equal(all(), []int{0, 1, 2, 3, 4, 5, 6}) {
		t.Fatalf("the modes are %v", all())
	}
	if api.ErrMode != 170 {
		t.Fatalf("ErrMode is %d", api.ErrMode)
	}
}

// P7.1: each mode is one, ModeNone too; and no other number is.
func TestCheck(t *testing.T) {
	for _, m := range all() {
		expect(t, "Check", mode.Check(m), api.OK)
	}
	for _, m := range noModes() {
		if e := mode.Check(m); e != api.ErrMode {
			t.Fatalf("Check(%d): error %d, want %d", m, e, api.ErrMode)
		}
	}
}

// P7.1: IS, IX, S, SIX and X are of tables, and so is ModeNone; E is not.
func TestOfTables(t *testing.T) {
	for _, m := range all() {
		if got, want := mode.OfTables(m), slices.Contains(ofTables(), m); got != want {
			t.Errorf("OfTables(%d): %t, want %t", m, got, want)
		}
	}
}

// P7.1: S, E and X are of keys, and so is ModeNone; IS, IX and SIX are not.
func TestOfKeys(t *testing.T) {
	for _, m := range all() {
		if got, want := mode.OfKeys(m), slices.Contains(ofKeys(), m); got != want {
			t.Errorf("OfKeys(%d): %t, want %t", m, got, want)
		}
	}
}

// P7.1: what is no mode is of neither.
func TestOfWhatIsNoMode(t *testing.T) {
	for _, m := range noModes() {
		if mode.OfTables(m) || mode.OfKeys(m) {
			t.Fatalf("%d is no mode: OfTables %t, OfKeys %t", m, mode.OfTables(m), mode.OfKeys(m))
		}
	}
}
