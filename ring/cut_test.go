package ring_test

import (
	"math"
	"testing"

	"bursary/api"
	"bursary/disk"
	"bursary/ring"
)

// several is a ring of entries of several lengths, from the place ahead on.
func several(t *testing.T, ahead int) *laid {
	t.Helper()
	l := format(t, 14, 12)
	if ahead > 0 {
		l.append(t, mixed(52*ahead, 1))
		l.cut(t, 1, nil)
	}
	for i, n := range []int{60, 0, 157, 52, 104} {
		l.append(t, mixed(n, i))
	}
	return l
}

// P4.4: of none, of some, of all, at all places; each is found again, and goes on.
func TestCut(t *testing.T) {
	for ahead := range 12 {
		for n := range 6 {
			l := several(t, ahead)
			l.cut(t, n, mixed(n, 7))
			l.open(t)
			l.append(t, mixed(53, 8))
			l.open(t)
			l.cut(t, len(l.entries), mixed(2, 9))
			if l.ring.Left() != 12 || len(l.ring.All()) != 0 {
				t.Fatalf("all cut: %d left, %v", l.ring.Left(), l.ring.All())
			}
			l.append(t, mixed(52*12, 10))
			l.open(t)
		}
	}
}

// P4.4: a Cut of none changes the note alone; of a ring without entries, too.
func TestCutOfNone(t *testing.T) {
	l := format(t, 6, 4)
	l.cut(t, 0, mixed(32, 1))
	l.cut(t, 0, nil)
	l.cut(t, 0, []byte{0})
	l.cut(t, 0, []byte{})
	l.cut(t, 0, make([]byte, 32))
	l.open(t)
	l.append(t, mixed(200, 2))
	l.cut(t, 0, mixed(31, 3))
	l.open(t)
}

// P4.4: notes of all lengths that may be, and longer ones.
func TestCutNotes(t *testing.T) {
	for n := range api.RingNote + 1 {
		l := several(t, 2)
		l.cut(t, 1, mixed(n, n))
		l.open(t)
		l.cut(t, 1, mixed(n/2, 1))
		l.open(t)
	}
	l := several(t, 2)
	for _, n := range []int{api.RingNote + 1, 42, 43, 64, 255, 256, 256 + 32, 1 << 16} {
		l.refused(t, "a note too long", api.ErrLong, func() api.Errno { return l.ring.Cut(1, make([]byte, n)) })
		l.refused(t, "a note too long", api.ErrLong, func() api.Errno { return l.ring.Cut(0, make([]byte, n)) })
	}
}

// P4.4: more than there are, and less than none, ahead of a note too long.
func TestCutOfTooMany(t *testing.T) {
	for _, many := range []bool{true, false} {
		l := several(t, 1)
		if !many {
			l.cut(t, 5, nil)
		}
		for _, n := range []int{len(l.entries) + 1, len(l.entries) + 2, 12, 13, math.MaxInt, -1, -2, math.MinInt} {
			l.refused(t, "Cut", api.ErrArg, func() api.Errno { return l.ring.Cut(n, nil) })
			l.refused(t, "Cut, a note too long", api.ErrArg, func() api.Errno { return l.ring.Cut(n, make([]byte, 33)) })
		}
	}
}

// P4.4: in the last turn there is no Cut, but an Append.
func TestCutInTheLastTurn(t *testing.T) {
	sectors := spoilt(9)
	sectors[1] = headSector(api.MaxTurn-1, 6, 5, 3, mixed(4, 1))
	m, _, _ := says(sectors)
	d := holding(t, sectors)
	r, e := ring.Open(d)
	expect(t, "Open", e, api.OK)
	l := &laid{d, r, m.opened()}
	is(t, "Open", d, r, l.model)
	l.append(t, mixed(60, 1))
	for _, n := range []int{0, 1, 2, -1} {
		l.refused(t, "Cut", api.ErrArg, func() api.Errno { return l.ring.Cut(n, nil) })
		l.refused(t, "Cut", api.ErrArg, func() api.Errno { return l.ring.Cut(n, make([]byte, 33)) })
	}
	l.append(t, mixed(200, 1))
	before := said(d)
	if r, e := ring.Open(d); r != nil || e != api.ErrRing {
		t.Fatalf("Open: %v, error %d", r, e)
	}
	sameSectors(t, "Open in the last turn", said(d), before)
}

// P4.4: the last Cut that there is comes to the last turn.
func TestCutToTheLastTurn(t *testing.T) {
	sectors := spoilt(6)
	sectors[0] = headSector(api.MaxTurn-2, 4, 1, 0, nil)
	m, _, _ := says(sectors)
	d := holding(t, sectors)
	r, e := ring.Open(d)
	expect(t, "Open", e, api.OK)
	l := &laid{d, r, m.opened()}
	l.cut(t, 0, mixed(3, 1))
	l.refused(t, "Cut", api.ErrArg, func() api.Errno { return l.ring.Cut(0, nil) })
}

// P4.4: which sector is written, with what, and where it stops; the ring is broken then.
func TestCutStepByStep(t *testing.T) {
	for turns := range 2 {
		for n := range 6 {
			begin := func() *laid {
				l := several(t, 7)
				for range turns {
					l.open(t)
				}
				return l
			}
			deed{steps: begin().model.cut(n, mixed(6, 6)).headSteps(), begin: func() (*disk.Disk, func() api.Errno) {
				l := begin()
				return l.disk, func() api.Errno {
					e := l.ring.Cut(n, mixed(6, 6))
					if e != api.OK {
						broken(t, "Cut", l)
					}
					return e
				}
			}}.check(t, "Cut")
		}
	}
}

// P4.4, R3: the note that is handed in stays, and is not kept.
func TestCutKeepsNothing(t *testing.T) {
	for _, n := range []int{0, 1, 31, 32} {
		l := several(t, 0)
		note := roomy(mixed(n, 1))
		expect(t, "Cut", l.ring.Cut(1, note), api.OK)
		untouched(t, "Cut", note, mixed(n, 1))
		clear(note[:n+32])
		l.model = l.model.cut(1, mixed(n, 1))
		is(t, "Cut", l.disk, l.ring, l.model)
		l.open(t)
	}
}
