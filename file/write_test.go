package file_test

import (
	"fmt"
	"math"
	"testing"

	"bursary/api"
	"bursary/disk"
)

// top is the last stamp, and the last Lsn.
const top = math.MaxUint64

// newLsn is one that no other write of these tests has.
const newLsn = 99

// whole is a slot of that stamp.
func whole(page int, stamp uint64) pair {
	return slotOf(page, stamp, 7, one(int(stamp%1000)))
}

// writes asks for all that a Write does to a page with those slots: its operations, and where it stops.
func writes(t *testing.T, name string, page int, slots [2]pair, lsn uint64, c api.Content) {
	t.Helper()
	sectors := sectorsOf(page, slots)
	steps, room := writeSteps(sectors, base, page, lsn, c)
	if !room {
		t.Fatalf("%s: no stamp is left", name)
	}
	deed{reads: 4, steps: steps, begin: func() (*disk.Disk, func() api.Errno) {
		d := holding(t, sectors)
		return d, func() api.Errno { return open(t, d, base).Write(page, lsn, c) }
	}}.check(t, name)
}

// lays asks for the slot that a Write to a page with those slots lays, and its stamp; and that it is read.
func lays(t *testing.T, name string, page int, slots [2]pair, slot int, stamp uint64) {
	t.Helper()
	f := fileOf(t, page, slots)
	expect(t, name, f.Write(page, newLsn, one(500)), api.OK)
	slots[slot] = slotOf(page, stamp, newLsn, one(500))
	settled(t, name, f.Disk(), sectorsOf(page, slots))
	reads(t, name, f, page, one(500), newLsn)
}

// P14.3: a page that there is none of goes ahead of a content that may not be, and of whatever the disk says.
func TestWriteOfNoPage(t *testing.T) {
	for _, page := range strangePages() {
		f := open(t, holding(t, spoilt(300)), base)
		gone := open(t, dead(t, spoilt(300)), base)
		for _, c := range append(wrong()[:3], contents()...) {
			refused(t, "Write", f.Disk(), 0, api.ErrArg, func() api.Errno { return f.Write(page, 1, c) })
			expect(t, "Write, dead", gone.Write(page, 1, c), api.ErrArg)
		}
		f.Disk().Fail(0)
		expect(t, "Write, set to fail", f.Write(page, 1, wrong()[0]), api.ErrArg)
	}
}

// P14.3: a content that may not be goes ahead of whatever the disk says, and of a stamp that there is none of.
func TestWriteOfNoContent(t *testing.T) {
	for _, page := range somePages() {
		full := [2]pair{whole(page, 1), whole(page, top)}
		for i, c := range wrong() {
			name := fmt.Sprintf("wrong content %d", i)
			f := fileOf(t, page, full)
			refused(t, name, f.Disk(), 0, api.ErrContent, func() api.Errno { return f.Write(page, 1, c) })
			f.Disk().Fail(0)
			refused(t, name+", set to fail", f.Disk(), 0, api.ErrContent, func() api.Errno { return f.Write(page, 1, c) })
			gone := open(t, dead(t, sectorsOf(page, full)), base)
			refused(t, name+", dead", gone.Disk(), 0, api.ErrContent, func() api.Errno { return gone.Write(page, 1, c) })
		}
	}
}

// P14.3: the disk's error of a Read goes ahead of a stamp that there is none of; nothing is read, or written, behind it.
func TestWriteThatCanNotRead(t *testing.T) {
	for _, stamp := range []uint64{2, top} {
		slots := [2]pair{whole(5, 1), whole(5, stamp)}
		f := fileOf(t, 5, slots)
		for n := range 4 {
			refused(t, "set to fail", f.Disk(), n+1, api.ErrIo, func() api.Errno {
				f.Disk().Fail(n)
				return f.Write(5, newLsn, one(3))
			})
		}
		gone := open(t, dead(t, sectorsOf(5, slots)), base)
		refused(t, "dead", gone.Disk(), 0, api.ErrDead, func() api.Errno { return gone.Write(5, newLsn, one(3)) })
	}
}

// P14.3: where any right part has the greatest stamp there is no Write, though its slot be not right; nothing is written then.
func TestWriteOfNoStamp(t *testing.T) {
	for _, page := range somePages() {
		last, some := whole(page, top), whole(page, 3)
		for i, slots := range [][2]pair{
			{last, some}, {some, last}, {last, last}, {last, {}}, {{}, last},
			{{last[0]}, some}, {{1: last[1]}, some}, {some, {last[0]}}, {some, {1: last[1]}},
			{{last[0]}, {}}, {{1: last[1]}, {}}, {{}, {last[0]}}, {{}, {1: last[1]}},
			{{some[0], last[1]}, {}}, {{last[0], some[1]}, some}, {some, {some[0], last[1]}},
			{pairOf(page, top, 7, dataOf(84, nil)), some},
		} {
			f := fileOf(t, page, slots)
			name := fmt.Sprintf("slots %d", i)
			want, lsn, e := f.Read(page)
			expect(t, name, e, api.OK)
			refused(t, name, f.Disk(), 4, api.ErrFull, func() api.Errno {
				f.Disk().Arm(0)
				return f.Write(page, newLsn, one(500))
			})
			reads(t, name, f, page, want, lsn)
		}
	}
}

// P14.3: the last stamp is laid; a page has as many as that, and others have their own.
func TestWriteOfTheLastStamp(t *testing.T) {
	for _, page := range somePages() {
		p, q := whole(page, top-1), whole(page, 3)
		lays(t, "in slot 0", page, [2]pair{p, q}, 1, top)
		lays(t, "in slot 1", page, [2]pair{q, p}, 0, top)
		lays(t, "in a part of slot 0", page, [2]pair{{p[0]}, q}, 0, top)
		lays(t, "in a part of slot 1", page, [2]pair{q, {1: p[1]}}, 1, top)
		f := fileOf(t, page, [2]pair{p, q})
		expect(t, "Write", f.Write(page, 8, one(1)), api.OK)
		refused(t, "Write", f.Disk(), 4, api.ErrFull, func() api.Errno { return f.Write(page, 9, one(2)) })
		reads(t, "full", f, page, one(1), 8)
		expect(t, "Write of another page", f.Write(page^1, 9, one(2)), api.OK)
		reads(t, "another page", f, page^1, one(2), 9)
	}
}

// P14.3: a part that is not right has no stamp, whatever it says.
func TestWriteOverBrokenParts(t *testing.T) {
	for _, page := range somePages() {
		last, p, elsewhere := whole(page, top), whole(page, 3), whole(page^1, top)
		bad := pair{turned(last[0], 511), turned(last[1], 0)}
		for i, q := range []pair{bad, elsewhere, {last[1], last[0]}, {}, rubbish} {
			name := fmt.Sprintf("broken slot %d", i)
			lays(t, name, page, [2]pair{q, p}, 0, 4)
			lays(t, name, page, [2]pair{p, q}, 1, 4)
			lays(t, name, page, [2]pair{q, q}, 0, 1)
		}
	}
}

// P14.3: the first Write goes to slot 0, the next ones by turns, each with a stamp more.
func TestWriteByTurns(t *testing.T) {
	for _, page := range somePages() {
		for _, sectors := range [][]api.Block{spoilt(263), make([]api.Block, 263)} {
			d := holding(t, sectors)
			f := open(t, d, base)
			for i := range 7 {
				lsn, c := uint64(100-i), one(10*i)
				expect(t, "Write", f.Write(page, lsn, c), api.OK)
				p := slotOf(page, uint64(i+1), lsn, c)
				copy(sectors[slotAt(base, page, i%2):], p[:])
				settled(t, fmt.Sprintf("Write %d", i), d, sectors)
				reads(t, fmt.Sprintf("Write %d", i), f, page, c, lsn)
			}
		}
	}
}

// P14.3: to which slot a Write goes, and with which stamp.
func TestWriteTo(t *testing.T) {
	for _, page := range somePages() {
		first, two, five, zero := whole(page, 1), whole(page, 2), whole(page, 5), whole(page, 0)
		for i, q := range []struct {
			slots [2]pair
			to    int
			stamp uint64
		}{
			{[2]pair{}, 0, 1}, {[2]pair{rubbish, rubbish}, 0, 1},
			{[2]pair{first, {}}, 1, 2}, {[2]pair{{}, first}, 0, 2},
			{[2]pair{first, two}, 0, 3}, {[2]pair{two, first}, 1, 3}, {[2]pair{two, two}, 1, 3}, {[2]pair{first, five}, 0, 6}, {[2]pair{five, first}, 1, 6},
			{[2]pair{two, {five[0]}}, 1, 6}, {[2]pair{two, {1: five[1]}}, 1, 6}, {[2]pair{{five[0]}, two}, 0, 6}, {[2]pair{{1: five[1]}, two}, 0, 6},
			{[2]pair{two, {first[0]}}, 1, 3}, {[2]pair{{1: first[1]}, two}, 0, 3},
			{[2]pair{two, {first[0], five[1]}}, 1, 6}, {[2]pair{two, {five[0], first[1]}}, 1, 6}, {[2]pair{{first[0], five[1]}, two}, 0, 6},
			{[2]pair{{five[0]}, {two[0]}}, 0, 6}, {[2]pair{{two[0]}, {1: five[1]}}, 0, 6}, {[2]pair{{two[0], five[1]}, {five[0], two[1]}}, 0, 6},
			{[2]pair{zero, {}}, 0, 1}, {[2]pair{{}, zero}, 0, 1}, {[2]pair{zero, zero}, 0, 1}, {[2]pair{two, zero}, 1, 3}, {[2]pair{zero, two}, 0, 3},
			{[2]pair{pairOf(page, 5, 7, dataOf(3, []byte{9, 9, 9})), two}, 0, 6}, {[2]pair{two, pairOf(page, 5, 7, make([]byte, 84))}, 1, 6},
		} {
			lays(t, fmt.Sprintf("slots %d", i), page, q.slots, q.to, q.stamp)
		}
	}
}

// P14.3: each state of four parts, held against the words.
func TestWriteAgainstTheWords(t *testing.T) {
	const kinds = 5
	for number := range kinds * kinds * kinds * kinds {
		page := number % 64
		sectors := spoilt(base + 256 + 3)
		rest := number
		for i := range 4 {
			if stamp := rest % kinds; stamp > 0 {
				sectors[base+4*page+i] = slotOf(page, uint64(stamp-1), 7, one(1))[i%2]
			}
			rest /= kinds
		}
		d := holding(t, sectors)
		steps, _ := writeSteps(sectors, base, page, newLsn, one(500))
		expect(t, "Write", open(t, d, base).Write(page, newLsn, one(500)), api.OK)
		settled(t, fmt.Sprintf("state %d", number), d, written(sectors, steps))
	}
}

// P14.3: a Write reads four sectors, writes two, and syncs, in order; behind the first error nothing is done.
func TestWriteStepByStep(t *testing.T) {
	for _, page := range somePages() {
		p, q := whole(page, 3), whole(page, 4)
		for i, slots := range [][2]pair{{}, {rubbish, rubbish}, {p, {}}, {{}, p}, {p, q}, {q, p}, {p, p}, {p, {q[0]}}, {{1: q[1]}, p}} {
			writes(t, fmt.Sprintf("slots %d", i), page, slots, uint64(i), one(i))
		}
	}
}

// P14.3: each content, with the least and the greatest Lsn; Lsns need not rise.
func TestWriteOfEach(t *testing.T) {
	for _, page := range somePages() {
		for i, c := range contents() {
			for _, lsn := range []uint64{top, 0, 1, 1 << 56, 255} {
				writes(t, fmt.Sprintf("content %d, Lsn %d", i, lsn), page, [2]pair{whole(page, 3), whole(page, 4)}, lsn, c)
			}
		}
	}
	f := fileOf(t, 5, [2]pair{})
	for _, lsn := range []uint64{0, top, 0, 7, 6, 6} {
		for _, c := range contents() {
			expect(t, "Write", f.Write(5, lsn, c), api.OK)
			reads(t, "written", f, 5, c, lsn)
			reads(t, "opened", open(t, f.Disk(), base), 5, c, lsn)
		}
	}
}

// P14.3: the same content, with the same Lsn, is written again as any other one.
func TestWriteOfTheSame(t *testing.T) {
	f := fileOf(t, 5, [2]pair{})
	for i := range 4 {
		expect(t, "Write", f.Write(5, 7, one(1)), api.OK)
		s := says(said(f.Disk()), base, 5)
		if s.counts != i%2 || s.stamp != uint64(i+1) {
			t.Fatalf("Write %d: slot %d, stamp %d", i, s.counts, s.stamp)
		}
	}
}
