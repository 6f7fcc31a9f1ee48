package mode_test

import (
	"testing"

	"bursary/api"
	"bursary/mode"
)

// P7.2: each two modes, both ways round.
func TestGoes(t *testing.T) {
	for _, a := range all() {
		for _, b := range all() {
			checkYes(t, "Goes", mode.Goes, a, b, together.says(a, b))
			checkYes(t, "Goes", mode.Goes, b, a, together.says(a, b))
		}
	}
}

// P7.2: with ModeNone goes each mode, ModeNone too; with itself goes none of SIX and X.
func TestGoesWithNoneAndWithItself(t *testing.T) {
	for _, m := range all() {
		checkYes(t, "Goes", mode.Goes, m, api.ModeNone, true)
		checkYes(t, "Goes", mode.Goes, api.ModeNone, m, true)
		checkYes(t, "Goes", mode.Goes, m, m, m != api.ModeSIX && m != api.ModeX)
	}
}

// P7.2: each two modes.
func TestCovers(t *testing.T) {
	for _, a := range all() {
		for _, b := range all() {
			checkYes(t, "Covers", mode.Covers, a, b, covering.says(a, b))
		}
	}
}

// P7.2: each mode covers itself and ModeNone, which covers nothing else; X covers all.
func TestCoversItselfAndNone(t *testing.T) {
	for _, m := range all() {
		checkYes(t, "Covers", mode.Covers, m, m, true)
		checkYes(t, "Covers", mode.Covers, m, api.ModeNone, true)
		checkYes(t, "Covers", mode.Covers, api.ModeNone, m, m == api.ModeNone)
		checkYes(t, "Covers", mode.Covers, api.ModeX, m, true)
		checkYes(t, "Covers", mode.Covers, m, api.ModeX, m == api.ModeX)
	}
}

// P7.2: what is no mode goes with nothing, covers nothing, and is covered by nothing, itself and ModeNone neither.
func TestGoesAndCoversOfWhatIsNoMode(t *testing.T) {
	for _, no := range noModes() {
		for _, m := range append(all(), no, no+1, -no, -1, 7, 256, 257) {
			checkYes(t, "Goes", mode.Goes, no, m, false)
			checkYes(t, "Goes", mode.Goes, m, no, false)
			checkYes(t, "Covers", mode.Covers, no, m, false)
			checkYes(t, "Covers", mode.Covers, m, no, false)
		}
	}
}
