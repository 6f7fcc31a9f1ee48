package file_test

import (
	"fmt"
	"math"
	"math/rand"
	"slices"
	"testing"

	"bursary/api"
	"bursary/file"
)

// base is where most of these tests' files begin.
const base = 4

// sectorsOf is sectors in which a page's slots are those, and all others are not right.
func sectorsOf(page int, slots [2]pair) []api.Block {
	out := spoilt(base + 256 + 3)
	for slot, p := range slots {
		copy(out[slotAt(base, page, slot):], p[:])
	}
	return out
}

// fileOf is the file of sectors in which a page's slots are those.
func fileOf(t *testing.T, page int, slots [2]pair) *file.File {
	t.Helper()
	return open(t, holding(t, sectorsOf(page, slots)), base)
}

// rubbish is a slot of which no part is right.
var rubbish = pair{mixed(1001), mixed(1002)}

// P14.2: pages that there are none of.
func TestReadOfNoPage(t *testing.T) {
	f := open(t, holding(t, spoilt(300)), base)
	gone := open(t, dead(t, spoilt(300)), base)
	for _, page := range strangePages() {
		refused(t, "Read", f.Disk(), 0, api.ErrArg, func() api.Errno {
			readsNothing(t, "no page", f, page, api.ErrArg)
			return api.ErrArg
		})
		readsNothing(t, "no page, of a dead disk", gone, page, api.ErrArg)
	}
}

// P14.2: what was never written is free.
func TestReadOfNothing(t *testing.T) {
	formatted, e := file.Format(holding(t, spoilt(300)), base)
	expect(t, "Format", e, api.OK)
	for name, f := range map[string]*file.File{
		"formatted":   formatted,
		"noughts":     open(t, made(t, 300), base),
		"not a file":  open(t, holding(t, spoilt(300)), base),
		"at its ends": open(t, made(t, 256), 0),
	} {
		for page := range 64 {
			reads(t, name, f, page, free, 0)
		}
	}
}

// P14.2: where each page's slots stand, and of what each content is read.
func TestReadOfEach(t *testing.T) {
	for _, page := range somePages() {
		for i, c := range contents() {
			for _, lsn := range []uint64{0, 1, 258, math.MaxUint64} {
				for _, stamp := range []uint64{1, 259, math.MaxUint64} {
					p := slotOf(page, stamp, lsn, c)
					name := fmt.Sprintf("content %d, stamp %d", i, stamp)
					reads(t, name, fileOf(t, page, [2]pair{p, rubbish}), page, c, lsn)
					reads(t, name, fileOf(t, page, [2]pair{rubbish, p}), page, c, lsn)
				}
			}
		}
	}
}

// P14.2: a Read reads four sectors, and no more behind the first one that fails, of a right page, too; it writes nothing.
func TestReadStepByStep(t *testing.T) {
	sectors := sectorsOf(5, [2]pair{slotOf(5, 1, 7, one(1)), slotOf(5, 2, 8, one(2))})
	f := open(t, holding(t, sectors), base)
	d := f.Disk()
	for n := range 4 {
		refused(t, "Read", d, n+1, api.ErrIo, func() api.Errno {
			d.Fail(n)
			readsNothing(t, "failed", f, 5, api.ErrIo)
			return api.ErrIo
		})
		reads(t, "behind a failure", f, 5, one(2), 8)
	}
	refused(t, "Read", d, 4, api.OK, func() api.Errno {
		d.Arm(0)
		d.Fail(4)
		reads(t, "armed", f, 5, one(2), 8)
		return api.OK
	})
	if _, e := d.Read(0); e != api.ErrIo {
		t.Fatalf("set to fail behind four Reads: error %d", e)
	}
	expect(t, "armed", d.Sync(), api.ErrDead)
	for _, page := range somePages() {
		refused(t, "Read", d, 0, api.ErrDead, func() api.Errno {
			readsNothing(t, "dead", f, page, api.ErrDead)
			return api.ErrDead
		})
	}
}

// P14.2: what is pending is read as it stands.
func TestReadOfThePending(t *testing.T) {
	f := fileOf(t, 5, [2]pair{slotOf(5, 3, 7, one(1)), slotOf(5, 2, 8, one(2))})
	p := slotOf(5, 4, 9, one(3))
	f.Disk().Write(slotAt(base, 5, 1), p[0])
	reads(t, "one part is pending", f, 5, one(1), 7)
	f.Disk().Write(slotAt(base, 5, 1)+1, p[1])
	reads(t, "both are pending", f, 5, one(3), 9)
	f.Disk().Crash(nil)
	reads(t, "both are lost", f, 5, one(1), 7)
}

// P14.2: of two right slots the greater stamp counts, wherever it stands; of equal ones slot 0.
func TestReadOfTwo(t *testing.T) {
	for _, q := range []struct {
		a, b uint64
		want int
	}{
		{1, 2, 1}, {2, 1, 0}, {1, 1, 0}, {7, 7, 0}, {top, top, 0}, {top - 1, top, 1}, {top, top - 1, 0}, {1, top, 1}, {top, 1, 0},
		{255, 256, 1}, {256, 255, 0}, {1 << 63, 1<<63 - 1, 0}, {1<<63 - 1, 1 << 63, 1}, {1 << 32, 1<<32 - 1, 0}, {1<<32 - 1, 1 << 32, 1},
	} {
		for _, page := range somePages() {
			for _, lsns := range [][2]uint64{{7, 8}, {8, 7}, {0, top}, {top, 0}} {
				f := fileOf(t, page, [2]pair{slotOf(page, q.a, lsns[0], one(1)), slotOf(page, q.b, lsns[1], one(2))})
				reads(t, fmt.Sprintf("stamps %d, %d", q.a, q.b), f, page, one(1+q.want), lsns[q.want])
			}
		}
	}
}

// turned is a sector with one bit turned.
func turned(b api.Block, bit int) api.Block {
	b[bit/8] ^= 1 << (bit % 8)
	return b
}

// broken is slots of that page that are not right, by what is not so; each has that stamp where it has one.
func broken(page int, stamp uint64) map[string]pair {
	c := one(4)
	data := dataOf(len(bytesOf(c)), bytesOf(c))
	p := pairOf(page, stamp, 70, data)
	elsewhere := pairOf(page^1, stamp, 70, data)
	later, earlier := pairOf(page, stamp+1, 70, data), pairOf(page, stamp-1, 70, data)
	lsn := pairOf(page, stamp, 71, data)
	far := pairOf(page, stamp, 70|1<<56, data)
	third := part{byte(page), 2, stamp, 70, data[42:]}.block()
	out := map[string]pair{
		"noughts": {}, "part 0 alone": {p[0]}, "part 1 alone": {1: p[1]}, "rubbish": rubbish,
		"another page in part 0": {elsewhere[0], p[1]}, "another page in part 1": {p[0], elsewhere[1]}, "another page": elsewhere,
		"part 0 twice": {p[0], p[0]}, "part 1 twice": {p[1], p[1]}, "the parts changed": {p[1], p[0]}, "a third part": {p[0], third},
		"a stamp above in part 0": {later[0], p[1]}, "a stamp above in part 1": {p[0], later[1]},
		"a stamp below in part 0": {earlier[0], p[1]}, "a stamp below in part 1": {p[0], earlier[1]},
		"another Lsn in part 0": {lsn[0], p[1]}, "another Lsn in part 1": {p[0], lsn[1]}, "an Lsn far above": {p[0], far[1]},
		"stamp 0": pairOf(page, 0, 70, data),
	}
	for nth, b := range p {
		for bit := range 512 {
			q := p
			q[nth] = turned(b, bit)
			out[fmt.Sprintf("bit %d of part %d", bit, nth)] = q
		}
		q := p
		slices.Reverse(q[nth][60:])
		out[fmt.Sprintf("the sum of part %d, lowest first", nth)] = q
	}
	for name, data := range brokenData() {
		out[name] = pairOf(page, stamp, 70, data)
	}
	return out
}

// brokenData is data of no content that may be, by what is not so.
func brokenData() map[string][]byte {
	out := map[string][]byte{}
	put := func(name string, length int, b []byte) { out[name] = dataOf(length, b) }
	for i, c := range contents() {
		b := bytesOf(c)
		for _, by := range []int{-len(b), -1, 1, 2, 83 - len(b), 84 - len(b), 255 - len(b)} {
			put(fmt.Sprintf("content %d, %d bytes more", i, by), len(b)+by, b)
		}
		put(fmt.Sprintf("content %d, of more bytes", i), len(b)+1, append(b, 0))
		for _, place := range []int{len(b) + 1, len(b) + 2, 41, 42, 83} {
			if place > len(b) && place < 84 {
				data := dataOf(len(b), b)
				data[place] = 1
				out[fmt.Sprintf("content %d, %d is no nought", i, place)] = data
			}
		}
	}
	for i, c := range wrong() {
		b := bytesOf(c)
		if _, may := contentOf(b); !may && len(b) <= 83 {
			put(fmt.Sprintf("wrong content %d", i), len(b), b)
		}
	}
	put("no bytes", 0, nil)
	put("no Kind", 1, []byte{3})
	put("five rows", 2, []byte{1, 5})
	put("a row in part", 13, []byte{1, 1, 0, 0, 7, 0, 0, 0, 0, 0, 0, 0, 7})
	put("two contents", 3, []byte{0, 1, 0})
	return out
}

// P14.2: what is not right does not count, be its stamp above that of the other slot, the same, or below; if neither is, the page was never written.
func TestReadOfBroken(t *testing.T) {
	for _, page := range []int{0, 5, 63} {
		for _, stamp := range []uint64{1, 9, 10, 11} {
			p := slotOf(page, 10, 7, one(1))
			d := holding(t, spoilt(base+256))
			f := open(t, d, base)
			for name, q := range broken(page, stamp) {
				for _, slots := range [][2]pair{{q, p}, {p, q}, {q, q}, {q, rubbish}, {rubbish, q}, {q, {}}} {
					for slot, sectors := range slots {
						for nth, b := range sectors {
							d.Write(slotAt(base, page, slot)+nth, b)
						}
					}
					if slots[0] == p || slots[1] == p {
						reads(t, name, f, page, one(1), 7)
					} else {
						reads(t, name, f, page, free, 0)
					}
				}
			}
		}
	}
}

// P14.2: a part's sector that is so of whatever data is right, so that both slots are held against the words, with parts of all kinds.
func TestReadAgainstTheWords(t *testing.T) {
	chance := rand.New(rand.NewSource(1))
	d := made(t, 256)
	f := open(t, d, 0)
	seen := map[int]int{}
	for range 30000 {
		page := chance.Intn(64)
		sectors := make([]api.Block, 256)
		for i := range 4 {
			sectors[4*page+i] = anyPart(chance, page, i%2).block()
			if chance.Intn(8) == 0 {
				sectors[4*page+i] = turned(sectors[4*page+i], chance.Intn(512))
			}
			d.Write(4*page+i, sectors[4*page+i])
		}
		s := says(sectors, 0, page)
		seen[s.counts]++
		reads(t, "parts by chance", f, page, s.content, s.lsn)
	}
	if seen[-1] < 1000 || seen[0] < 1000 || seen[1] < 1000 {
		t.Fatal(seen)
	}
}

// anyPart is a part that often goes with others.
func anyPart(chance *rand.Rand, page, nth int) part {
	all := contents()
	c := all[chance.Intn(2)*chance.Intn(len(all))]
	data := dataOf(len(bytesOf(c)), bytesOf(c))
	if chance.Intn(8) == 0 {
		data[chance.Intn(84)] = byte(chance.Intn(3))
	}
	p := part{byte(page), byte(nth), uint64(chance.Intn(3)), 4, data[42*nth : 42*nth+42]}
	if chance.Intn(6) == 0 {
		p.lsn++
	}
	if chance.Intn(20) == 0 {
		p.page++
	}
	if chance.Intn(20) == 0 {
		p.nth = 1 - p.nth
	}
	return p
}
