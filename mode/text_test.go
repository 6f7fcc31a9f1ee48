package mode_test

import (
	"slices"
	"strings"
	"testing"

	"bursary/api"
	"bursary/mode"
)

// P7.4: each mode has its text.
func TestText(t *testing.T) {
	for m, want := range written {
		if got := mode.Text(m); got != want {
			t.Errorf("Text(%d): %q, want %q", m, got, want)
		}
	}
}

// P7.4: what is no mode has none.
func TestTextOfWhatIsNoMode(t *testing.T) {
	for _, m := range noModes() {
		if got := mode.Text(m); got != "" {
			t.Fatalf("Text(%d): %q", m, got)
		}
	}
}

// P7.4: each text is its mode's.
func TestParse(t *testing.T) {
	for want, s := range written {
		checkParse(t, s, want)
	}
}

// P7.4: Parse leads back from what Text gives, and the text of no mode is none.
func TestParseOfText(t *testing.T) {
	for _, m := range all() {
		checkParse(t, mode.Text(m), m)
	}
	for _, m := range noModes() {
		noParse(t, mode.Text(m))
	}
}

// P7.4: texts that are none, though they are near to one, or mean one elsewhere.
func TestParseOfOthers(t *testing.T) {
	for _, s := range []string{
		"", "is", "ix", "s", "six", "x", "e", "Is", "iS", "Ix", "iX", "sIX", "Six", "SiX", "SIx",
		"I", "SI", "IXS", "XI", "XIS", "A", "N", "U", "IE", "XX", "SS", "EE", "--", "_", "+", "0", "3", "4", "7", "170", "-1",
		"None", "NONE", "ModeIS", "ModeNone", "nil", "IS,", "IS;", "'S'", "\"S\"",
		"–", "—", "−", "\u00ad", "Ｓ", "ſ", "İS", "ΙХ", "Х", "Е", "S\u0301", "\ufeffS", "S\u200b",
		"\xff", "S\xff", "\xffS", "\xd3", "\xc5", "\xc1S", "I\xd3", "\xed\xa0\x80", "\xe2\x80",
		strings.Repeat("S", 100000), "SIX" + strings.Repeat(" ", 100000),
	} {
		noParse(t, s)
	}
}

// P7.4: something ahead of a text, behind it, and between its bytes.
func TestParseOfMore(t *testing.T) {
	for _, s := range written {
		for _, more := range []string{" ", "\t", "\n", "\r", "\r\n", "\v", "\f", "\x00", "\u00a0", "\u3000", ".", "*", "\xff", "\x80"} {
			for at := range len(s) + 1 {
				noParse(t, s[:at]+more+s[at:])
			}
			noParse(t, more+s+more)
			noParse(t, more)
		}
	}
}

// P7.4: two texts joined, and parts of one, unless that is another one's text.
func TestParseOfJoinsAndParts(t *testing.T) {
	parseOrNot := func(s string) {
		if m := slices.Index(written, s); m >= 0 {
			checkParse(t, s, m)
			return
		}
		noParse(t, s)
	}
	for _, a := range written {
		for _, b := range written {
			for _, between := range []string{"", " ", ",", "|", "-"} {
				parseOrNot(a + between + b)
			}
		}
		for from := range len(a) + 1 {
			for to := from; to <= len(a); to++ {
				parseOrNot(a[from:to])
			}
		}
	}
	checkParse(t, "S"+"IX", api.ModeSIX)
}

// P7.4: of all texts of up to two bytes, and of all longer ones of the texts' letters and some others, just the seven are a mode's.
func TestParseOfAllShortTexts(t *testing.T) {
	var bytes [256]byte
	for i := range bytes {
		bytes[i] = byte(i)
	}
	for _, some := range []struct {
		letters []byte
		most    int
		met     int
	}{{bytes[:], 2, 6}, {[]byte("-ISXEisxe \x00\xff"), 4, 7}, {[]byte("ISX"), 7, 5}} {
		seen := map[int]int{}
		eachText(some.letters, some.most, func(s string) {
			want := slices.Index(written, s)
			if want < 0 {
				noParse(t, s)
				return
			}
			checkParse(t, s, want)
			seen[want]++
		})
		if len(seen) != some.met {
			t.Fatalf("the modes met, and how often: %v, want %d of them", seen, some.met)
		}
	}
}

// eachText tells all texts of at most so many of these letters.
func eachText(letters []byte, most int, tell func(s string)) {
	var grow func(s []byte)
	grow = func(s []byte) {
		tell(string(s))
		if len(s) == most {
			return
		}
		for _, x := range letters {
			grow(append(s, x))
		}
	}
	grow(nil)
}
