package mode_test

import (
	"math"
	"slices"
	"testing"

	"bursary/api"
	"bursary/mode"
)

// written are the texts of all modes, each at its mode's number.
var written = []string{"-", "IS", "IX", "S", "SIX", "X", "E"}

// all are the modes.
func all() []int {
	return []int{api.ModeNone, api.ModeIS, api.ModeIX, api.ModeS, api.ModeSIX, api.ModeX, api.ModeE}
}

// ofTables are the modes of tables.
func ofTables() []int {
	return []int{api.ModeNone, api.ModeIS, api.ModeIX, api.ModeS, api.ModeSIX, api.ModeX}
}

// ofKeys are the modes of keys.
func ofKeys() []int {
	return []int{api.ModeNone, api.ModeS, api.ModeE, api.ModeX}
}

// noModes are numbers that are no mode: right beside the modes, at the ends of int, and a mode less or more than each power of two, and than each such below 0, which cut to fewer bits would be a mode.
func noModes() []int {
	var out []int
	add := func(m int) {
		if !slices.Contains(all(), m) && !slices.Contains(out, m) {
			out = append(out, m)
		}
	}
	for i := -70; i <= 70; i++ {
		add(i)
	}
	for d := range 10 {
		add(math.MinInt + d)
		add(math.MaxInt - d)
		for bit := 3; bit < 63; bit++ {
			add(1<<bit + d)
			add(1<<bit - d)
			add(-1<<bit + d)
			add(-1<<bit - d)
		}
	}
	return out
}

// grid is what a table of the chapter says of two modes: of a row's mode, and of a column's. A line is a row's, a sign a column's, in the order of the modes; + is yes.
type grid [7]string

// says is what the grid says of a and b.
func (g grid) says(a, b int) bool {
	return g[a][b] == '+'
}

// together is which modes go together.
var together = grid{
	//-IS IX S SIX X E
	"+++++++", // -
	"+++++..", // IS
	"+++....", // IX
	"++.+...", // S
	"++.....", // SIX
	"+......", // X
	"+.....+", // E
}

// covering is which mode, the row's, covers which, the column's.
var covering = grid{
	//-IS IX S SIX X E
	"+......", // -
	"++.....", // IS
	"+++....", // IX
	"++.+...", // S
	"+++++..", // SIX
	"+++++++", // X
	"+.....+", // E
}

// sups are the texts of the sups of a row's mode and a column's, in the order of the modes; the empty one, where they have none.
var sups = [7][7]string{
	{"-", "IS", "IX", "S", "SIX", "X", "E"},      // -
	{"IS", "IS", "IX", "S", "SIX", "X", ""},      // IS
	{"IX", "IX", "IX", "SIX", "SIX", "X", ""},    // IX
	{"S", "S", "SIX", "S", "SIX", "X", "X"},      // S
	{"SIX", "SIX", "SIX", "SIX", "SIX", "X", ""}, // SIX
	{"X", "X", "X", "X", "X", "X", "X"},          // X
	{"E", "", "", "X", "", "X", "E"},             // E
}

// expect holds an error against the one that is wanted.
func expect(t *testing.T, name string, got, want api.Errno) {
	t.Helper()
	if got != want {
		t.Fatalf("%s: error %d, want %d", name, got, want)
	}
}

// checkYes holds what a call says of a and b against what is wanted.
func checkYes(t *testing.T, name string, ask func(a, b int) bool, a, b int, want bool) {
	t.Helper()
	if got := ask(a, b); got != want {
		t.Fatalf("%s(%d, %d): %t, want %t", name, a, b, got, want)
	}
}

// checkSup holds Sup against the mode that is wanted.
func checkSup(t *testing.T, a, b, want int) {
	t.Helper()
	if got, e := mode.Sup(a, b); got != want || e != api.OK {
		t.Fatalf("Sup(%d, %d): %d, error %d, want %d", a, b, got, e, want)
	}
}

// noSup asks Sup for an error, and nothing beside it.
func noSup(t *testing.T, a, b int, want api.Errno) {
	t.Helper()
	if got, e := mode.Sup(a, b); got != 0 || e != want {
		t.Fatalf("Sup(%d, %d): %d, error %d, want error %d", a, b, got, e, want)
	}
}

// checkParse holds Parse against the mode that is wanted.
func checkParse(t *testing.T, s string, want int) {
	t.Helper()
	if got, e := mode.Parse(s); got != want || e != api.OK {
		t.Fatalf("Parse(%q): %d, error %d, want %d", s, got, e, want)
	}
}

// noParse asks Parse for ErrArg, and nothing beside it.
func noParse(t *testing.T, s string) {
	t.Helper()
	if got, e := mode.Parse(s); got != 0 || e != api.ErrArg {
		t.Fatalf("Parse(%q): %d, error %d, want error %d", s, got, e, api.ErrArg)
	}
}

// sup is what Sup answers of two modes that have one.
func sup(t *testing.T, a, b int) int {
	t.Helper()
	m, e := mode.Sup(a, b)
	if e != api.OK {
		t.Fatalf("Sup(%d, %d): error %d", a, b, e)
	}
	return m
}
