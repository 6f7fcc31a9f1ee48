package ring_test

import (
	"testing"

	"bursary/api"
	"bursary/disk"
	"bursary/ring"
)

// P4.3: entries of all lengths at which another sector begins; each is found again.
func TestAppend(t *testing.T) {
	for _, n := range []int{0, 1, 51, 52, 53, 103, 104, 105, 156, 157, 260, 1000, api.MaxEntry - 1, api.MaxEntry} {
		l := format(t, 402, 400)
		l.append(t, mixed(n, n+1))
		l.append(t, make([]byte, n)) // noughts are bytes, too
		l.append(t, mixed(3, 2))
		l.open(t)
		l.append(t, mixed(n/4, 3))
		l.open(t)
		if got, want := l.ring.Left(), 400-2*pieces(n)-1-pieces(n/4); got != want {
			t.Fatalf("two of %d bytes, and more: %d left, want %d", n, got, want)
		}
	}
	l := format(t, 6, 4)
	l.append(t, nil)
	l.append(t, []byte{})
	l.open(t)
}

// P4.3: an entry is laid in the turn of its ring, which grows with each Cut and each Open.
func TestAppendInItsTurn(t *testing.T) {
	l := format(t, 12, 10)
	for i := range 4 {
		l.append(t, mixed(60, i))
		if turn := low(l.sectors[l.sector(l.used()-1)][:4]); turn != uint64(2*i+1) {
			t.Fatalf("the turn %d", turn)
		}
		l.cut(t, 0, nil)
		l.open(t)
	}
}

// P4.3: an entry goes on at the first place, behind the last one.
func TestAppendPastTheLastPlace(t *testing.T) {
	for _, size := range []int{4, 5, 7} {
		for ahead := 1; ahead < size; ahead++ {
			for n := 1; n <= size; n++ {
				l := format(t, size+3, size)
				l.append(t, mixed(52*ahead, 1))
				l.cut(t, 1, mixed(ahead, 2))
				l.append(t, mixed(52*n, 3))
				l.open(t)
			}
		}
	}
}

// P4.3: a ring that is just full takes nothing more, not even an entry of no bytes; one that has a place left takes it.
func TestAppendToFull(t *testing.T) {
	for _, size := range []int{4, 6, 150, api.MaxRing} {
		l := format(t, size+2, size)
		for l.left() > 0 {
			n := min(52*l.left(), api.MaxEntry)
			if n < 52*l.left() {
				l.append(t, mixed(n, l.left()))
				continue
			}
			l.refused(t, "an entry of a place more than is left", api.ErrFull, func() api.Errno { return l.ring.Append(mixed(min(n+1, api.MaxEntry), 1)) })
			l.append(t, mixed(n, 2))
		}
		for _, n := range []int{0, 1, 52, 53, api.MaxEntry} {
			l.refused(t, "an entry more", api.ErrFull, func() api.Errno { return l.ring.Append(make([]byte, n)) })
		}
		l.open(t)
		l.refused(t, "an entry more, opened", api.ErrFull, func() api.Errno { return l.ring.Append(nil) })
		l.cut(t, 1, nil)
		l.append(t, mixed(52, 3))
	}
	l := format(t, 6, 4)
	for i := range 4 {
		l.append(t, mixed(i, i))
	}
	l.refused(t, "a fifth one", api.ErrFull, func() api.Errno { return l.ring.Append(nil) })
}

// P4.3: too many bytes go ahead of too few places.
func TestAppendTooLong(t *testing.T) {
	for _, size := range []int{4, 153, 154, 155, 400} {
		l := format(t, size+2, size)
		for _, n := range []int{api.MaxEntry + 1, api.MaxEntry + 8, api.MaxEntry + 9, 1 << 16, 1<<16 + 1, 100000} {
			l.refused(t, "too many bytes", api.ErrLong, func() api.Errno { return l.ring.Append(make([]byte, n)) })
		}
	}
	l := format(t, 155, 153)
	l.refused(t, "a place too few", api.ErrFull, func() api.Errno { return l.ring.Append(make([]byte, api.MaxEntry)) })
}

// P4.3: the greatest number of an entry is 2^40 less 1.
func TestAppendOfTheLastNumber(t *testing.T) {
	sectors := spoilt(9)
	sectors[0] = headSector(8, 6, limit-2, 3, mixed(4, 1))
	d := holding(t, sectors)
	r, e := ring.Open(d)
	expect(t, "Open", e, api.OK)
	m, _, _ := says(sectors)
	l := &laid{d, r, m.opened()}
	is(t, "Open", d, r, l.model)
	l.append(t, mixed(60, 2))
	l.append(t, mixed(60, 3))
	for _, n := range []int{0, 53, api.MaxEntry} {
		l.refused(t, "the number 2^40", api.ErrFull, func() api.Errno { return l.ring.Append(make([]byte, n)) })
	}
	l.refused(t, "too long, and the number 2^40", api.ErrLong, func() api.Errno { return l.ring.Append(make([]byte, api.MaxEntry+1)) })
	l.open(t)
	l.cut(t, 1, nil)
	l.open(t)
	l.refused(t, "the number 2^40", api.ErrFull, func() api.Errno { return l.ring.Append(nil) })
	l.cut(t, 1, nil)
	if l.ring.First() != limit || l.ring.Left() != 6 {
		t.Fatalf("First %d, %d left", l.ring.First(), l.ring.Left())
	}
	l.refused(t, "the number 2^40, without entries", api.ErrFull, func() api.Errno { return l.ring.Append(nil) })
}

// P4.3: which sectors are written, in which order, and where it stops; the ring is broken then.
func TestAppendStepByStep(t *testing.T) {
	for _, n := range []int{0, 52, 53, 105, 208} {
		for _, ahead := range []int{0, 2, 4} {
			m := busy(t, ahead).model
			deed{steps: m.appendSteps(mixed(n, 5)), begin: func() (*disk.Disk, func() api.Errno) {
				l := busy(t, ahead)
				return l.disk, func() api.Errno {
					e := l.ring.Append(mixed(n, 5))
					if e != api.OK {
						broken(t, "Append", l)
					}
					return e
				}
			}}.check(t, "Append")
		}
	}
}

// busy is a ring with entries, from the place ahead on, with a note.
func busy(t *testing.T, ahead int) *laid {
	t.Helper()
	l := format(t, 10, 7)
	if ahead > 0 {
		l.append(t, mixed(52*ahead, 1))
	}
	l.append(t, mixed(7, 2))
	l.cut(t, len(l.entries)-1, mixed(5, 3))
	l.append(t, mixed(70, 4))
	return l
}

// broken asks a ring whose disk had an error: it is as it was ahead of that, and takes nothing more, whatever it is.
func broken(t *testing.T, name string, l *laid) {
	t.Helper()
	if !l.ring.Broken() {
		t.Fatalf("%s: not broken", name)
	}
	d := l.disk.Copy()
	before, ops := behindCrash(d, all), l.disk.Ops()
	for _, b := range [][]byte{nil, {1}, mixed(300, 1), make([]byte, api.MaxEntry), make([]byte, api.MaxEntry+1)} {
		expect(t, name+", broken: Append", l.ring.Append(b), api.ErrIo)
	}
	for _, n := range []int{-1, 0, 1, len(l.entries), len(l.entries) + 1} {
		expect(t, name+", broken: Cut", l.ring.Cut(n, nil), api.ErrIo)
		expect(t, name+", broken: Cut", l.ring.Cut(n, make([]byte, 33)), api.ErrIo)
	}
	if l.disk.Ops() != ops || !l.ring.Broken() {
		t.Fatalf("%s, broken: %d operations; broken: %t", name, l.disk.Ops()-ops, l.ring.Broken())
	}
	sameSectors(t, name+", broken", behindCrash(l.disk, all), before)
	if l.ring.First() != l.first || !sameLists(l.ring.All(), l.entries) || string(l.ring.Note()) != string(l.note) || l.ring.Left() != l.left() {
		t.Fatalf("%s, broken: First %d, %v, %v, %d left", name, l.ring.First(), l.ring.All(), l.ring.Note(), l.ring.Left())
	}
}

// P4.3: a ring stays broken when the power is back, and when its disk does not fail any more; it is opened again.
func TestBrokenTillOpened(t *testing.T) {
	l := busy(t, 3)
	l.disk.Arm(1)
	expect(t, "Append", l.ring.Append(mixed(100, 1)), api.ErrDead)
	broken(t, "dead", l)
	l.disk.Crash(nil)
	broken(t, "behind a Crash", l)
	l.open(t)
	l.append(t, mixed(100, 2))

	l.disk.Fail(2)
	expect(t, "Append", l.ring.Append(mixed(53, 1)), api.ErrIo)
	broken(t, "failed", l)
	m, _, _ := says(said(l.disk)) // the entry is pending, whole: that is what the disk says
	l.model = m
	l.open(t)
	if len(l.entries) != 4 {
		t.Fatalf("%d entries", len(l.entries))
	}
	l.cut(t, 1, nil)
	l.append(t, nil)
}

// P4.3: a dead disk says so, once.
func TestAppendToADeadDisk(t *testing.T) {
	l := busy(t, 1)
	l.disk.Arm(0)
	l.disk.Sync()
	expect(t, "an entry too long", l.ring.Append(make([]byte, 8001)), api.ErrLong)
	expect(t, "an entry of too many places", l.ring.Append(make([]byte, 8000)), api.ErrFull)
	if l.ring.Broken() {
		t.Fatal("broken by what was refused")
	}
	expect(t, "an entry", l.ring.Append(nil), api.ErrDead)
	broken(t, "Append", l)
}

// P4.3, R3: what is handed in stays, and is not kept.
func TestAppendKeepsNothing(t *testing.T) {
	for _, n := range []int{0, 1, 52, 60, 104} {
		l := format(t, 8, 6)
		b := roomy(mixed(n, 1))
		expect(t, "Append", l.ring.Append(b), api.OK)
		untouched(t, "Append", b, mixed(n, 1))
		clear(b[:n+64])
		l.model = l.model.appended(mixed(n, 1))
		is(t, "Append", l.disk, l.ring, l.model)
		l.open(t)
	}
}
