package ring_test

import (
	"math/rand"
	"slices"
	"testing"

	"bursary/api"
	"bursary/disk"
	"bursary/ring"
)

// opens opens a disk of those sectors, and asks for just what they say, and for as many Reads.
func opens(t *testing.T, name string, sectors []api.Block) {
	t.Helper()
	m, reads, there := says(sectors)
	d := holding(t, sectors)
	ops := d.Ops()
	r, e := ring.Open(d)
	if !there || m.turn == api.MaxTurn {
		if r != nil || e != api.ErrRing {
			t.Fatalf("%s: %v, error %d, want no ring", name, r, e)
		}
		if got := d.Ops() - ops; got != 2+reads {
			t.Fatalf("%s, no ring: %d operations, want %d", name, got, 2+reads)
		}
		sameSectors(t, name+", no ring", said(d), sectors)
		return
	}
	expect(t, name, e, api.OK)
	is(t, name, d, r, m.opened())
	if got := d.Ops() - ops; got != 2+reads+2 {
		t.Fatalf("%s: %d operations, want %d", name, got, 2+reads+2)
	}
}

// count is how many entries the sectors say, or -1, if they say no ring.
func count(sectors []api.Block) int {
	m, _, there := says(sectors)
	if !there {
		return -1
	}
	return len(m.entries)
}

// P4.2: of nil, of no ring, of a disk that is too short for the heads.
func TestOpenOfNoRing(t *testing.T) {
	if r, e := ring.Open(nil); r != nil || e != api.ErrNil {
		t.Fatalf("Open(nil): %v, error %d", r, e)
	}
	for _, n := range []int{2, 3, 6, 8, api.MaxSectors} {
		opens(t, "noughts", make([]api.Block, n))
		opens(t, "no ring", spoilt(n))
	}
	d := holding(t, []api.Block{headSector(1, 4, 1, 0, nil)})
	if r, e := ring.Open(d); r != nil || e != api.ErrArg {
		t.Fatalf("Open of a disk of one sector: %v, error %d, want that of its Read of the second one", r, e)
	}
	d = holding(t, format(t, 6, 4).sectors)
	d.Arm(0)
	d.Sync()
	if r, e := ring.Open(d); r != nil || e != api.ErrDead {
		t.Fatalf("Open of a dead disk: %v, error %d", r, e)
	}
}

// with is the sectors with other ones from a place on.
func with(sectors []api.Block, at int, others ...api.Block) []api.Block {
	out := slices.Clone(sectors)
	copy(out[at:], others)
	return out
}

// P4.2: a right head counts wherever it stands; of two the greater turn, and that of sector 0, if both have one. The new one is laid by its turn, even over that which counted.
func TestOpenOfTwoHeads(t *testing.T) {
	for a := range 8 {
		for b := range 8 {
			zero, one := headSector(uint64(a), 4, 7, 1, []byte{1}), headSector(uint64(b), 5, 9, 2, []byte{2, 2})
			sectors := with(spoilt(8), 0, zero, one)
			opens(t, "two heads", sectors)
			m, _, there := says(sectors)
			want := 0
			switch {
			case a == 0 && b == 0:
			case b > a:
				want = 5
			default:
				want = 4
			}
			if there != (want > 0) || m.size != want {
				t.Fatalf("turns %d and %d: size %d, want %d", a, b, m.size, want)
			}
		}
	}
	for turn := range 6 {
		opens(t, "one head", with(spoilt(8), 0, headSector(uint64(turn), 4, 7, 1, []byte{1})))
		opens(t, "one head", with(spoilt(8), 1, headSector(uint64(turn), 4, 7, 1, []byte{1})))
	}
}

// P4.2: heads at all limits of what may be, and beyond.
func TestOpenOfHeadsAtTheirLimits(t *testing.T) {
	long := slices.Repeat([]byte{7}, 43)
	for name, b := range map[string]api.Block{
		"turn 0":               headSector(0, 6, 1, 0, nil),
		"the last turn but 1":  headSector(1<<30-1, 6, 1, 0, nil),
		"the last turn":        headSector(1<<30, 6, 1, 0, nil),
		"a turn too great":     headSector(1<<30+1, 6, 1, 0, nil),
		"the greatest turn":    headSector(1<<32-1, 6, 1, 0, nil),
		"size 0":               headSector(1, 0, 1, 0, nil),
		"size 3":               headSector(1, 3, 1, 0, nil),
		"size 4":               headSector(1, 4, 1, 3, nil),
		"size 1000":            headSector(1, 1000, 1, 999, nil),
		"size 1001":            headSector(1, 1001, 1, 0, nil),
		"the greatest size":    headSector(1, 1<<16-1, 1, 0, nil),
		"number 0":             headSector(1, 6, 0, 0, nil),
		"the last number":      headSector(1, 6, limit-1, 0, nil),
		"the last but 255":     headSector(1, 6, limit-256, 0, nil),
		"the first place":      headSector(1, 6, 1, 0, nil),
		"the last place":       headSector(1, 6, 1, 5, nil),
		"a place too great":    headSector(1, 6, 1, 6, nil),
		"the greatest place":   headSector(1, 6, 1, 1<<16-1, nil),
		"a note of 1":          headSector(1, 6, 1, 0, long[:1]),
		"a note of 32":         headSector(1, 6, 1, 0, long[:32]),
		"a note of 33":         headSector(1, 6, 1, 0, long[:33]),
		"a note of 42":         headSector(1, 6, 1, 0, long[:42]),
		"a note past the end":  headSector(1, 6, 1, 0, long),
		"a note of noughts":    headSector(1, 6, 1, 0, make([]byte, 32)),
		"a note of noughts 33": headSector(1, 6, 1, 0, make([]byte, 33)),
		"a note of 255":        headSector(1, 6, 1, 0, make([]byte, 255)),
		"more behind its end":  filled(headBytes(1, 6, 1, 0), []byte{2, 1, 1, 0, 1}),
		"letters alone":        filled([]byte("bursring")),
		"other letters":        filled([]byte("bursrinG"), headBytes(1, 6, 1, 0)[8:]),
	} {
		for at := range 2 {
			opens(t, name, with(spoilt(1010), at, b))
			opens(t, name+", on a disk of 8", with(spoilt(8), at, b))
			// The other one is right, with a lower turn.
			opens(t, name+", and another one", with(with(spoilt(1010), at, b), 1-at, headSector(1, 5, 2, 0, nil)))
		}
	}
}

// headBytes is what a head's sector has ahead of its note.
func headBytes(turn uint64, size int, first uint64, place int) []byte {
	b := headSector(turn, size, first, place, nil)
	return slices.Clone(b[:21])
}

// P4.2: a head whose places are not all on the disk says no ring, even if another one would; none of its places is read.
func TestOpenOfHeadsBeyondTheDisk(t *testing.T) {
	for size := 4; size < 9; size++ {
		for at := range 2 {
			sectors := with(spoilt(8), at, headSector(5, size, 1, 2, nil))
			opens(t, "a head beyond", sectors)
			if (count(sectors) >= 0) != (size <= 6) {
				t.Fatalf("size %d on 8 sectors: %d entries", size, count(sectors))
			}
			sectors = with(sectors, 1-at, headSector(4, 4, 1, 2, nil))
			opens(t, "a head beyond, and another one", sectors)
			if (count(sectors) >= 0) != (size <= 6) {
				t.Fatalf("size %d on 8 sectors, and another head: %d entries", size, count(sectors))
			}
		}
	}
	opens(t, "just on the disk", with(spoilt(api.MaxRing+2), 0, headSector(5, api.MaxRing, 1, 2, nil)))
	opens(t, "one beyond the disk", with(spoilt(api.MaxRing+1), 0, headSector(5, api.MaxRing, 1, 2, nil)))
}

// turns are the ways in which a byte is turned.
var turns = []byte{1, 2, 3, 0x40, 0x80, 0xFF}

// P4.2: a byte of each head, turned at each of its places.
func TestOpenOfTurnedHeads(t *testing.T) {
	l := several(t, 5)
	l.cut(t, 1, mixed(9, 1))
	l.cut(t, 1, mixed(9, 2))
	fresh := format(t, 8, 6)
	for _, m := range []model{l.model, l.cutCopy(t), fresh.model} {
		for at := range 2 {
			for i := range 64 {
				for _, x := range turns {
					sectors := slices.Clone(m.sectors)
					sectors[at][i] ^= x
					opens(t, "a turned head", sectors)
				}
			}
		}
	}
	for i := range 8 {
		sectors := slices.Clone(fresh.sectors)
		sectors[1][i] ^= 1
		if count(sectors) != -1 {
			t.Fatalf("the letter %d turned: a ring", i)
		}
	}
}

// cutCopy is what the model has behind one Cut more, of a copy.
func (l *laid) cutCopy(t *testing.T) model {
	t.Helper()
	c := l.copy(t)
	c.cut(t, 1, nil)
	return c.model
}

// P4.2: a byte of each sector of the entries, and of the one behind them, turned at each of its places.
func TestOpenOfTurnedSectors(t *testing.T) {
	for _, ahead := range []int{0, 6} {
		l := several(t, ahead)
		l.open(t)
		for nth := range l.size {
			at := l.sector(nth)
			for i := range 64 {
				for _, x := range turns {
					sectors := slices.Clone(l.sectors)
					sectors[at][i] ^= x
					opens(t, "a turned sector", sectors)
				}
			}
		}
	}
}

// P4.2: each way in which a sector is not so ends what is read there, in the first sector of an entry and in later ones.
func TestOpenOfSectorsThatAreNotSo(t *testing.T) {
	b := mixed(120, 1)
	base := with(spoilt(9), 0, headSector(5, 7, 8, 6, nil)) // from the last place on
	laid := func(parts ...api.Block) []api.Block {
		out := slices.Clone(base)
		for i, b := range parts {
			out[2+(6+i)%7] = b
		}
		return out
	}
	one, two, three := entrySectors(5, 8, b), entrySectors(4, 8, b), entrySectors(5, 8, mixed(121, 2))
	behind := entrySectors(5, 9, mixed(3, 1))
	for _, q := range []struct {
		name    string
		sectors []api.Block
		entries int
	}{
		{"whole", laid(one...), 1},
		{"whole, of an earlier turn", laid(two...), 1},
		{"whole, and one behind", laid(slices.Concat(one, behind)...), 2},
		{"of two turns, the first one the later", laid(one[0], two[1], two[2]), 0},
		{"of two turns, the first one the earlier", laid(two[0], one[1], one[2]), 0},
		{"of two turns, in the last sector", laid(one[0], one[1], two[2]), 0},
		{"of a turn that is to come", laid(entrySectors(6, 8, b)...), 0},
		{"of the turn 0", laid(entrySectors(0, 8, b)...), 0},
		{"of the first turn", laid(entrySectors(1, 8, b)...), 1},
		{"of two lengths", laid(one[0], three[1], three[2]), 0},
		{"of two lengths, in the last sector", laid(three[0], three[1], one[2]), 0},
		{"of the number ahead", laid(entrySectors(5, 7, b)...), 0},
		{"of the number behind", laid(entrySectors(5, 9, b)...), 0},
		{"of the number 0", laid(entrySectors(5, 0, b)...), 0},
		{"of another number in the second sector", laid(one[0], entrySectors(5, 9, b)[1], one[2]), 0},
		{"of the same number once more", laid(slices.Concat(one, one)...), 1},
		{"a number left out", laid(slices.Concat(one, entrySectors(5, 10, b))...), 1},
		{"begun with its second sector", laid(one[1], one[2]), 0},
		{"the second sector twice", laid(one[0], one[1], one[1]), 0},
		{"the first sector twice", laid(one[0], one[0], one[1]), 0},
		{"without its last sector", laid(one[0], one[1]), 0},
		{"without its last sector, another one behind", laid(one[0], one[1], behind[0]), 0},
		{"bytes behind its end", laid(one[0], one[1], addAt(one[2], 63)), 0},
		{"a byte right behind its end", laid(one[0], one[1], addAt(one[2], 12+16)), 0},
		{"another last byte", laid(one[0], one[1], addAt(one[2], 12+15)), 1},
		{"a byte behind no bytes", laid(addAt(entrySectors(5, 8, nil)[0], 12)), 0},
		{"no bytes", laid(entrySectors(5, 8, nil)...), 1},
		{"just full", laid(entrySectors(5, 8, mixed(364, 1))...), 1},
		{"just full, of two", laid(slices.Concat(one, entrySectors(5, 9, mixed(208, 1)))...), 2},
		{"more than there are places", laid(entrySectors(5, 8, mixed(365, 1))[:7]...), 0},
		{"more than are left", laid(slices.Concat(one, entrySectors(5, 9, mixed(209, 1))[:4])...), 1},
		{"more than are left, the first one meant once more", laid(slices.Concat(entrySectors(5, 8, mixed(300, 1)), entrySectors(5, 9, mixed(53, 1))[:1])...), 1},
	} {
		opens(t, q.name, q.sectors)
		if got := count(q.sectors); got != q.entries {
			t.Errorf("%s: %d entries, want %d", q.name, got, q.entries)
		}
	}
}

// addAt is a sector with one of its bytes one higher.
func addAt(b api.Block, i int) api.Block {
	b[i]++
	return b
}

// P4.2: an entry of MaxEntry bytes is one, one of a byte more is none.
func TestOpenOfLongEntries(t *testing.T) {
	for n, entries := range map[int]int{7999: 1, 8000: 1, 8001: 0, 8008: 0, 8009: 0, 1<<16 - 1: 0} {
		parts := entrySectors(1, 1, mixed(n, 1))
		sectors := with(with(spoilt(1002), 1, headSector(1, 1000, 1, 0, nil)), 2, parts...)
		opens(t, "a long entry", sectors)
		if got := count(sectors); got != entries {
			t.Errorf("%d bytes: %d entries, want %d", n, got, entries)
		}
	}
}

// P4.2: no entry has the number 2^40, and no place is read for it.
func TestOpenOfTheLastNumber(t *testing.T) {
	for back := range 4 {
		first := uint64(limit - back)
		sectors := with(spoilt(9), 1, headSector(1, 7, first, 0, nil))
		for i := range 6 {
			sectors[2+i] = entrySectors(1, first+uint64(i), nil)[0]
		}
		opens(t, "the last numbers", sectors)
		want := back
		if back == 0 {
			want = -1 // 2^40 stands in no five bytes
		}
		if got := count(sectors); got != want {
			t.Errorf("from 2^40 less %d on: %d entries", back, got)
		}
	}
}

// P4.2: in the last turn there is no ring, but what there is is read first, and its error goes ahead.
func TestOpenInTheLastTurn(t *testing.T) {
	sectors := with(with(spoilt(8), 0, headSector(api.MaxTurn, 6, 1, 4, nil)), 6, entrySectors(9, 1, mixed(60, 1))...)
	opens(t, "the last turn", sectors)
	for n := range 5 {
		d := holding(t, sectors)
		d.Fail(n)
		if r, e := ring.Open(d); r != nil || e != api.ErrIo {
			t.Errorf("set to fail with %d: %v, error %d", n, r, e)
		}
	}
	d := holding(t, sectors)
	d.Fail(5)
	if r, e := ring.Open(d); r != nil || e != api.ErrRing {
		t.Errorf("set to fail with 5: %v, error %d", r, e)
	}
}

// P4.2: what Open reads and writes, in which order, and where it stops.
func TestOpenStepByStep(t *testing.T) {
	for turns := range 2 {
		for _, ahead := range []int{0, 7, 11} {
			begin := func() *laid {
				l := several(t, ahead)
				for range turns {
					l.open(t)
				}
				return l
			}
			m := begin().model
			_, reads, _ := says(m.sectors)
			deed{reads: 2 + reads, steps: m.opened().headSteps(), begin: func() (*disk.Disk, func() api.Errno) {
				l := begin()
				return l.disk, func() api.Errno {
					r, e := ring.Open(l.disk)
					if (r != nil) != (e == api.OK) {
						t.Fatalf("Open: %v, error %d", r, e)
					}
					return e
				}
			}}.check(t, "Open")
		}
	}
}

// P4.2: the places are read in order, from First's on: a sector that is not so ends the Reads just behind it.
func TestOpenReadsInOrder(t *testing.T) {
	for _, ahead := range []int{0, 3, 11} {
		l := several(t, ahead)
		for nth := range l.used() {
			sectors := slices.Clone(l.sectors)
			sectors[l.sector(nth)] = api.Block{}
			d := holding(t, sectors)
			ops := d.Ops()
			_, e := ring.Open(d)
			expect(t, "Open", e, api.OK)
			if got := d.Ops() - ops; got != 2+nth+1+2 {
				t.Fatalf("place %d is not so: %d operations", nth, got)
			}
		}
	}
}

// P4.2: what is pending is said, too, and settled by the sync.
func TestOpenOfWhatIsPending(t *testing.T) {
	m := several(t, 4).model
	d := made(t, len(m.sectors))
	for i, b := range m.sectors {
		d.Write(i, b)
	}
	r, e := ring.Open(d)
	expect(t, "Open", e, api.OK)
	is(t, "Open", d, r, m.opened())
}

// P4.2: any sectors at all, made from a ring's by turning some bytes and by changing some sectors for others.
func TestOpenOfAnySectors(t *testing.T) {
	chance := rand.New(rand.NewSource(4))
	l := several(t, 9)
	l.cut(t, 2, mixed(3, 1))
	l.append(t, mixed(50, 1))
	l.append(t, mixed(150, 1))
	l.open(t)
	seen := map[int]int{}
	for range 20000 {
		sectors := slices.Clone(l.sectors)
		for range 1 + chance.Intn(3) {
			sectors[chance.Intn(len(sectors))][chance.Intn(24)] ^= 1 << chance.Intn(8)
		}
		if chance.Intn(4) == 0 {
			sectors[chance.Intn(len(sectors))] = sectors[chance.Intn(len(sectors))]
		}
		opens(t, "any sectors", sectors)
		seen[count(sectors)]++
	}
	if len(seen) < 5 {
		t.Fatalf("what was opened is too much alike: %v", seen)
	}
}
