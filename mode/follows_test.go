package mode_test

import (
	"testing"

	"bursary/api"
	"bursary/mode"
)

// kinds are the modes of tables, and those of keys.
func kinds() [][]int {
	return [][]int{ofTables(), ofKeys()}
}

// P7.5: what goes with a sup goes with both, and the other way round.
func TestWhatGoesWithASup(t *testing.T) {
	for _, ms := range kinds() {
		for _, a := range ms {
			for _, b := range ms {
				m := sup(t, a, b)
				for _, c := range all() {
					checkYes(t, "Goes", mode.Goes, c, m, mode.Goes(c, a) && mode.Goes(c, b))
				}
			}
		}
	}
}

// P7.5: what goes with one goes with all that it covers.
func TestWhatGoesWithACover(t *testing.T) {
	for _, a := range all() {
		for _, b := range all() {
			for _, c := range all() {
				if mode.Covers(a, b) && mode.Goes(c, a) {
					checkYes(t, "Goes", mode.Goes, c, b, true)
				}
			}
		}
	}
}

// P7.5: to cover is an order: each covers itself, two that cover each other are one, and what a third one covers that is covered is covered.
func TestToCoverIsAnOrder(t *testing.T) {
	for _, a := range all() {
		checkYes(t, "Covers", mode.Covers, a, a, true)
		for _, b := range all() {
			if mode.Covers(a, b) && mode.Covers(b, a) && a != b {
				t.Fatalf("%d and %d cover each other", a, b)
			}
			for _, c := range all() {
				if mode.Covers(a, b) && mode.Covers(b, c) {
					checkYes(t, "Covers", mode.Covers, a, c, true)
				}
			}
		}
	}
}

// P7.5: of two the sup is the same, whichever comes first; an error too.
func TestSupEitherWayRound(t *testing.T) {
	for _, a := range append(all(), -1, 7, 257) {
		for _, b := range append(all(), -1, 7, 257) {
			m, e := mode.Sup(a, b)
			n, f := mode.Sup(b, a)
			if m != n || e != f {
				t.Fatalf("Sup(%d, %d): %d, error %d; the other way round: %d, error %d", a, b, m, e, n, f)
			}
		}
	}
}

// P7.5: of three, all of tables, or all of keys, the sup is the same, whichever two come first.
func TestSupOfThree(t *testing.T) {
	for _, ms := range kinds() {
		for _, a := range ms {
			for _, b := range ms {
				for _, c := range ms {
					m := sup(t, sup(t, a, b), c)
					checkSup(t, a, sup(t, b, c), m)
					checkSup(t, sup(t, a, c), b, m)
				}
			}
		}
	}
}

// R5: an answer hangs on its arguments alone, not on what was asked ahead of it.
func TestAnswersStay(t *testing.T) {
	type answers struct {
		check, why, unknown api.Errno
		tables, keys        bool
		together, covers    bool
		sup, parsed         int
		text                string
	}
	ask := func(a, b int) answers {
		out := answers{check: mode.Check(a), tables: mode.OfTables(a), keys: mode.OfKeys(a), together: mode.Goes(a, b), covers: mode.Covers(a, b), text: mode.Text(a)}
		out.sup, out.why = mode.Sup(a, b)
		out.parsed, out.unknown = mode.Parse(out.text)
		return out
	}
	some := append(all(), -1, 7, 8, 256, 257)
	first := map[[2]int]answers{}
	for _, a := range some {
		for _, b := range some {
			first[[2]int{a, b}] = ask(a, b)
		}
	}
	for range 2 {
		for pair, want := range first { // in whichever order they come
			if got := ask(pair[0], pair[1]); got != want {
				t.Fatalf("of %v: %v, and %v ahead", pair, got, want)
			}
		}
	}
}
