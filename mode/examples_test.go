package mode_test

import (
	"testing"

	"bursary/api"
	"bursary/mode"
)

// P7.2: the chapter's first example.
func TestExampleGoes(t *testing.T) {
	checkYes(t, "Goes", mode.Goes, api.ModeIX, api.ModeIX, true)
	checkYes(t, "Goes", mode.Goes, api.ModeS, api.ModeIX, false)
	checkYes(t, "Goes", mode.Goes, api.ModeE, api.ModeE, true)
	checkYes(t, "Goes", mode.Goes, api.ModeE, api.ModeS, false)
}

// P7.2, P7.3: the chapter's second example.
func TestExampleSup(t *testing.T) {
	checkSup(t, api.ModeS, api.ModeIX, api.ModeSIX)
	checkSup(t, api.ModeS, api.ModeE, api.ModeX)
	noSup(t, api.ModeIX, api.ModeE, api.ErrArg)
	checkYes(t, "Covers", mode.Covers, api.ModeSIX, api.ModeIX, true)
}

// P7.4: the chapter's third example.
func TestExampleText(t *testing.T) {
	if got := mode.Text(4); got != "SIX" {
		t.Errorf("Text(4): %q", got)
	}
	checkParse(t, "E", 6)
	noParse(t, "e")
}
