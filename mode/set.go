package mode

import "bursary/api"

// set is a set of modes: of each the bit at its number.
type set uint8

// The sets of a single mode each, in the order in which api numbers the modes.
const (
	bitNone set = 1 << iota
	bitIS
	bitIX
	bitS
	bitSIX
	bitX
	bitE
)

// setOf is the set of these modes; what is no mode has no bit, and may not be among them.
func setOf(ms ...int) set {
	var out set
	for _, m := range ms {
		out |= 1 << m
	}
	return out
}

// holds says whether all of another set is in this one.
func (s set) holds(other set) bool {
	return s&other == other
}

// tables is the modes of tables.
func tables() set {
	return setOf(api.ModeNone, api.ModeIS, api.ModeIX, api.ModeS, api.ModeSIX, api.ModeX)
}

// keys is the modes of keys.
func keys() set {
	return setOf(api.ModeNone, api.ModeS, api.ModeE, api.ModeX)
}
