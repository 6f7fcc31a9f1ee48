package file_test

import (
	"hash/crc32"
	"math"
	"slices"

	"bursary/api"
)

// What the chapter says of sectors, byte by byte, and by no code of the program.

// castagnoli is Go's own CRC-32C.
var castagnoli = crc32.MakeTable(crc32.Castagnoli)

// high is x in n bytes, the highest one first.
func high(x uint64, n int) []byte {
	b := make([]byte, n)
	for i := n - 1; i >= 0; i-- {
		b[i] = byte(x)
		x >>= 8
	}
	return b
}

// low is the number that stands in b, the highest byte first.
func low(b []byte) uint64 {
	var x uint64
	for _, one := range b {
		x = x*256 + uint64(one)
	}
	return x
}

// summed is those 60 bytes, and their sum.
func summed(b []byte) api.Block {
	return api.Block(slices.Concat(b, high(uint64(crc32.Checksum(b, castagnoli)), 4)))
}

// part is what a part's sector says.
type part struct {
	page, nth  byte
	stamp, lsn uint64
	data       []byte // 42 bytes
}

// block is the part's sector.
func (p part) block() api.Block {
	return summed(slices.Concat([]byte{p.page, p.nth}, high(p.stamp, 8), high(p.lsn, 8), p.data))
}

// readsPart is what a sector says, and whether that is right as that part of that page.
func readsPart(b api.Block, page, nth int) (part, bool) {
	p := part{page: b[0], nth: b[1], stamp: low(b[2:10]), lsn: low(b[10:18]), data: b[18:60]}
	return p, p.block() == b && int(p.page) == page && int(p.nth) == nth
}

// keyBytes is a key's bytes.
func keyBytes(k api.Key) []byte {
	return append([]byte{byte(k.Table)}, high(uint64(k.Id), 2)...)
}

// bytesOf is a content's bytes, whether it may be or not.
func bytesOf(c api.Content) []byte {
	out := []byte{byte(c.Kind)}
	switch c.Kind {
	case api.KindLeaf:
		out = append(out, byte(len(c.Rows)))
		for _, r := range c.Rows {
			out = slices.Concat(out, keyBytes(r.Key), high(uint64(r.Val), 8), []byte{byte(len(r.Note))}, []byte(r.Note))
		}
	case api.KindInner:
		out = append(out, byte(len(c.Kids)))
		for _, k := range c.Kids {
			out = slices.Concat(out, keyBytes(k.Least), []byte{byte(k.Page)})
		}
	}
	return out
}

// dataOf is a length, bytes, and noughts up to 84.
func dataOf(length int, b []byte) []byte {
	out := append([]byte{byte(length)}, b...)
	return append(out, make([]byte, 84-len(out))...)
}

// pair is the sectors of a slot.
type pair [2]api.Block

// pairOf is a slot of that data.
func pairOf(page int, stamp, lsn uint64, data []byte) pair {
	return pair{
		part{byte(page), 0, stamp, lsn, data[:42]}.block(),
		part{byte(page), 1, stamp, lsn, data[42:]}.block(),
	}
}

// slotOf is a right slot.
func slotOf(page int, stamp, lsn uint64, c api.Content) pair {
	b := bytesOf(c)
	return pairOf(page, stamp, lsn, dataOf(len(b), b))
}

// before says whether one key is ahead of another one.
func before(a, b api.Key) bool {
	return a.Table < b.Table || a.Table == b.Table && a.Id < b.Id
}

// contentOf is the content of just these bytes, and whether there is one that may be.
func contentOf(b []byte) (api.Content, bool) {
	if len(b) == 1 && b[0] == 0 {
		return free, true
	}
	if len(b) < 2 || b[0] != 1 && b[0] != 2 || b[1] > 4 {
		return free, false
	}
	c := api.Content{Kind: int(b[0])}
	rest := b[2:]
	for range b[1] {
		if len(rest) < 4 || rest[0] > 2 {
			return free, false
		}
		k := api.Key{Table: int(rest[0]), Id: uint16(low(rest[1:3]))}
		if c.Kind == api.KindInner {
			c.Kids = append(c.Kids, api.Kid{Least: k, Page: int(rest[3])})
			rest = rest[4:]
			continue
		}
		if len(rest) < 12 || rest[11] > 8 || len(rest) < 12+int(rest[11]) {
			return free, false
		}
		n := 12 + int(rest[11])
		c.Rows = append(c.Rows, api.Row{Key: k, Val: int64(low(rest[3:11])), Note: string(rest[12:n])})
		rest = rest[n:]
	}
	return c, len(rest) == 0 && rises(c)
}

// rises says whether the rows' keys rise, and whether the kids may be so.
func rises(c api.Content) bool {
	for i := range c.Rows {
		if i > 0 && !before(c.Rows[i-1].Key, c.Rows[i].Key) {
			return false
		}
	}
	seen := map[int]int{}
	for i, k := range c.Kids {
		seen[k.Page]++
		if i == 0 && k.Least != (api.Key{}) || i > 0 && !before(c.Kids[i-1].Least, k.Least) || k.Page < 1 || k.Page > 63 || seen[k.Page] > 1 {
			return false
		}
	}
	return c.Kind == api.KindLeaf || len(c.Kids) >= 2
}

// told is what a page's sectors say together.
type told struct {
	content api.Content
	lsn     uint64
	counts  int    // the slot that counts; -1, if neither is right
	stamp   uint64 // the greatest one of all right parts
}

// slotAt is where a slot's sectors begin.
func slotAt(base, page, slot int) int {
	return base + 4*page + 2*slot
}

// says is what a page's sectors say.
func says(sectors []api.Block, base, page int) told {
	all := told{counts: -1}
	var counts uint64
	for slot := range 2 {
		from := slotAt(base, page, slot)
		a, first := readsPart(sectors[from], page, 0)
		b, second := readsPart(sectors[from+1], page, 1)
		if first {
			all.stamp = max(all.stamp, a.stamp)
		}
		if second {
			all.stamp = max(all.stamp, b.stamp)
		}
		if !first || !second || a.stamp != b.stamp || a.stamp == 0 || a.lsn != b.lsn {
			continue
		}
		data := slices.Concat(a.data, b.data)
		n := int(data[0])
		if n > 83 || slices.ContainsFunc(data[1+n:], func(x byte) bool { return x != 0 }) {
			continue
		}
		c, may := contentOf(data[1 : 1+n])
		if may && (all.counts == -1 || a.stamp > counts) {
			all.content, all.lsn, all.counts, counts = c, a.lsn, slot, a.stamp
		}
	}
	return all
}

// step is a Write of a sector, or a Sync.
type step struct {
	sync   bool
	sector int
	b      api.Block
}

// formatSteps is what Format does.
func formatSteps(base int) []step {
	var out []step
	for i := range 256 {
		out = append(out, step{sector: base + i})
	}
	return append(out, step{sync: true})
}

// writeSteps is what a Write does behind its Reads; false, if there is no stamp for it.
func writeSteps(sectors []api.Block, base, page int, lsn uint64, c api.Content) ([]step, bool) {
	t := says(sectors, base, page)
	if t.stamp == math.MaxUint64 {
		return nil, false
	}
	to := 0
	if t.counts == 0 {
		to = 1
	}
	from := slotAt(base, page, to)
	p := slotOf(page, t.stamp+1, lsn, c)
	return []step{{sector: from, b: p[0]}, {sector: from + 1, b: p[1]}, {sync: true}}, true
}

// written is the sectors behind those steps.
func written(sectors []api.Block, steps []step) []api.Block {
	out := slices.Clone(sectors)
	for _, s := range steps {
		if !s.sync {
			out[s.sector] = s.b
		}
	}
	return out
}

// pendingBehind is the sectors that are pending behind those steps, and the sectors that are settled.
func pendingBehind(sectors []api.Block, steps []step) (pending []int, settled []api.Block) {
	settled = slices.Clone(sectors)
	for i, s := range steps {
		if s.sync {
			pending, settled = nil, written(sectors, steps[:i])
		} else if !slices.Contains(pending, s.sector) {
			pending = append(pending, s.sector)
		}
	}
	slices.Sort(pending)
	return pending, settled
}
