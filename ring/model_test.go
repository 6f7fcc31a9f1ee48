package ring_test

import (
	"bytes"
	"slices"

	"bursary/api"
)

// model is a ring and all sectors of its disk, as the chapter says them: byte by byte, and by no code of the program.
type model struct {
	sectors     []api.Block
	turn        uint64
	size, place int
	first       uint64
	note        []byte
	entries     [][]byte
}

// limit is the first number that no entry may have.
const limit = 1 << 40

// step is a Write of a sector, or a Sync.
type step struct {
	sync   bool
	sector int
	b      api.Block
}

// high is x in n bytes, the highest one first.
func high(x uint64, n int) []byte {
	b := make([]byte, n)
	for i := n - 1; i >= 0; i-- {
		b[i] = byte(x)
		x >>= 8
	}
	return b
}

// low is the number that stands in b, the highest byte first.
func low(b []byte) uint64 {
	var x uint64
	for _, one := range b {
		x = x*256 + uint64(one)
	}
	return x
}

// filled is a sector of those bytes, and noughts behind them.
func filled(parts ...[]byte) api.Block {
	var b api.Block
	copy(b[:], slices.Concat(parts...))
	return b
}

// headSector is a head's sector, whether what it says may be or not.
func headSector(turn uint64, size int, first uint64, place int, note []byte) api.Block {
	return filled([]byte("bursring"), high(turn, 4), high(uint64(size), 2), high(first, 5), high(uint64(place), 2), high(uint64(len(note)), 1), note)
}

// pieces is how many sectors n bytes have, counted one by one.
func pieces(n int) int {
	count := 1
	for room := 52; room < n; room += 52 {
		count++
	}
	return count
}

// entrySectors is the sectors of an entry.
func entrySectors(turn, number uint64, b []byte) []api.Block {
	var out []api.Block
	for k := range pieces(len(b)) {
		piece := b[52*k : min(52*k+52, len(b))]
		out = append(out, filled(high(turn, 4), high(number, 5), high(uint64(len(b)), 2), high(uint64(k), 1), piece))
	}
	return out
}

// readsHead is what a sector says as a head, and whether that is right.
func readsHead(b api.Block) (model, bool) {
	m := model{turn: low(b[8:12]), size: int(low(b[12:14])), first: low(b[14:19]), place: int(low(b[19:21]))}
	n := int(b[21])
	right := string(b[:8]) == "bursring" && m.turn >= 1 && m.turn <= 1<<30 && m.size >= 4 && m.size <= 1000 && m.first >= 1 && m.place < m.size && n <= 32
	if !right || !nought(b[22+n:]) {
		return model{}, false
	}
	m.note = bytes.Clone(b[22 : 22+n])
	return m, true
}

// nought says whether there is nothing but noughts.
func nought(b []byte) bool {
	return len(bytes.Trim(b, "\x00")) == 0
}

// says is what a disk says, and how many of its places are read for that; false, if it says no ring.
func says(sectors []api.Block) (m model, reads int, there bool) {
	for _, b := range sectors[:2] {
		if h, right := readsHead(b); right && h.turn > m.turn {
			m, there = h, true
		}
	}
	if !there || 2+m.size > len(sectors) {
		return model{}, 0, false
	}
	m.sectors = slices.Clone(sectors)
	for m.left() > 0 && m.next() < limit {
		b, read, whole := m.nextWhole()
		reads += read
		if !whole {
			break
		}
		m.entries = append(m.entries, b)
	}
	return m, reads, true
}

// nextWhole is the entry behind those that the model has, if it is whole, and how many sectors are read for that.
func (m model) nextWhole() (entry []byte, reads int, whole bool) {
	at := m.used()
	b := m.sectors[m.sector(at)]
	turn, length := low(b[:4]), int(low(b[9:11]))
	if turn < 1 || turn > m.turn || length > 8000 || pieces(length) > m.left() {
		return nil, 1, false
	}
	for k := range pieces(length) {
		b := m.sectors[m.sector(at+k)]
		n := min(52, length-52*k)
		if low(b[:4]) != turn || low(b[4:9]) != m.next() || int(low(b[9:11])) != length || int(b[11]) != k || !nought(b[12+n:]) {
			return nil, k + 1, false
		}
		entry = append(entry, b[12:12+n]...)
	}
	return entry, pieces(length), true
}

// next is the number that the next entry has.
func (m model) next() uint64 {
	return m.first + uint64(len(m.entries))
}

// used is how many places the entries have.
func (m model) used() int {
	n := 0
	for _, b := range m.entries {
		n += pieces(len(b))
	}
	return n
}

// left is how many places are left.
func (m model) left() int {
	return m.size - m.used()
}

// sector is where the place stands that is n behind the first entry's.
func (m model) sector(n int) int {
	return 2 + (m.place+n)%m.size
}

// formatSteps is what Format does.
func formatSteps(size int) []step {
	var out []step
	for i := range size + 2 {
		out = append(out, step{sector: i})
	}
	return append(out, step{sync: true}, step{sector: 1, b: headSector(1, size, 1, 0, nil)}, step{sync: true})
}

// headSteps is how the model's head is laid.
func (m model) headSteps() []step {
	return []step{{sector: int(m.turn % 2), b: headSector(m.turn, m.size, m.first, m.place, m.note)}, {sync: true}}
}

// appendSteps is how an entry is laid behind those that there are.
func (m model) appendSteps(b []byte) []step {
	var out []step
	for k, b := range entrySectors(m.turn, m.next(), b) {
		out = append(out, step{sector: m.sector(m.used() + k), b: b})
	}
	return append(out, step{sync: true})
}

// formatted is an empty ring of that size on those sectors.
func formatted(sectors []api.Block, size int) model {
	return model{sectors: written(sectors, formatSteps(size)), turn: 1, size: size, first: 1}
}

// appended is the ring with an entry more.
func (m model) appended(b []byte) model {
	m.sectors = written(m.sectors, m.appendSteps(b))
	m.entries = append(slices.Clone(m.entries), b)
	return m
}

// cut is the ring without its first n entries, with that note.
func (m model) cut(n int, note []byte) model {
	for _, b := range m.entries[:n] {
		m.place = (m.place + pieces(len(b))) % m.size
	}
	m.entries = m.entries[n:]
	m.first += uint64(n)
	m.note = note
	return m.opened()
}

// opened is the ring with a turn more.
func (m model) opened() model {
	m.turn++
	m.sectors = written(m.sectors, m.headSteps())
	return m
}

// written is the sectors behind those steps.
func written(sectors []api.Block, steps []step) []api.Block {
	out := slices.Clone(sectors)
	for _, s := range steps {
		if !s.sync {
			out[s.sector] = s.b
		}
	}
	return out
}

// pendingBehind is the sectors that are pending behind those steps, and the sectors that are settled.
func pendingBehind(sectors []api.Block, steps []step) (pending []int, settled []api.Block) {
	settled = slices.Clone(sectors)
	for i, s := range steps {
		if s.sync {
			pending, settled = nil, written(sectors, steps[:i])
		} else if !slices.Contains(pending, s.sector) {
			pending = append(pending, s.sector)
		}
	}
	slices.Sort(pending)
	return pending, settled
}
