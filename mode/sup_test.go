package mode_test

import (
	"slices"
	"testing"

	"bursary/api"
	"bursary/mode"
)

// supsOf holds Sup of each two of these modes against what is wanted.
func supsOf(t *testing.T, ms []int) {
	t.Helper()
	for _, a := range ms {
		for _, b := range ms {
			checkSup(t, a, b, slices.Index(written, sups[a][b]))
		}
	}
}

// P7.3: each two modes of tables.
func TestSupOfTables(t *testing.T) {
	supsOf(t, ofTables())
}

// P7.3: each two modes of keys.
func TestSupOfKeys(t *testing.T) {
	supsOf(t, ofKeys())
}

// P7.3: with ModeNone, on either side, the sup is the other one.
func TestSupWithNone(t *testing.T) {
	for _, m := range all() {
		checkSup(t, m, api.ModeNone, m)
		checkSup(t, api.ModeNone, m, m)
	}
}

// P7.3: what the words say of a sup: it covers both, and whatever covers both covers it.
func TestSupIsTheLeast(t *testing.T) {
	for _, ms := range [][]int{ofTables(), ofKeys()} {
		for _, a := range ms {
			for _, b := range ms {
				m := sup(t, a, b)
				if !mode.Covers(m, a) || !mode.Covers(m, b) {
					t.Fatalf("Sup(%d, %d): %d, which does not cover both", a, b, m)
				}
				for _, c := range all() {
					if mode.Covers(c, a) && mode.Covers(c, b) && !mode.Covers(c, m) {
						t.Fatalf("Sup(%d, %d): %d, which %d does not cover", a, b, m, c)
					}
				}
				if !slices.Contains(ms, m) {
					t.Fatalf("Sup(%d, %d): %d, which is not of what both are of", a, b, m)
				}
			}
		}
	}
}

// P7.3: ErrArg of one that is of tables alone and one that is of keys alone, either way round; of no others.
func TestSupOfATablesAndAKeys(t *testing.T) {
	for _, a := range []int{api.ModeIS, api.ModeIX, api.ModeSIX} {
		noSup(t, a, api.ModeE, api.ErrArg)
		noSup(t, api.ModeE, a, api.ErrArg)
	}
	for _, a := range all() {
		for _, b := range all() {
			if sups[a][b] == "" {
				noSup(t, a, b, api.ErrArg)
			}
		}
	}
}

// P7.3: ErrMode, whichever of both is no mode, and of both; ahead of ErrArg, which a mode of another kind would have.
func TestSupOfWhatIsNoMode(t *testing.T) {
	for _, no := range noModes() {
		for _, m := range append(all(), no, no+1, -no, -1, 7, 256, 257) {
			noSup(t, no, m, api.ErrMode)
			noSup(t, m, no, api.ErrMode)
		}
	}
}
