package ring

import (
	"iter"

	"bursary/api"
	"bursary/octet"
)

// mark is what all sectors of an entry say of it.
type mark struct {
	turn   uint32 // in which it was laid
	number uint64
	length int
}

// markBytes is how many bytes of a sector stand ahead of those that are the entry's.
const markBytes = api.Sector - api.RingData

// readMark is the mark in a sector.
func readMark(b api.Block) mark {
	r := octet.Read(b[:])
	return mark{turn: r.U32(), number: number(r), length: int(r.U16())}
}

// piece is from where, and up to where, the entry's bytes are in its k-th sector.
func (m mark) piece(k int) (from, to int) {
	from = k * api.RingData
	return from, min(from+api.RingData, m.length)
}

// block is the k-th sector of an entry of this mark, with that piece of its bytes.
func (m mark) block(k int, piece []byte) api.Block {
	b := octet.Put32(nil, m.turn)
	b = putNumber(b, m.number)
	b = octet.Put16(b, uint16(m.length))
	b = append(b, byte(k))
	b = append(b, piece...)
	return block(b)
}

// pieceOf is the piece of the entry's bytes in its k-th sector, and whether that sector is so.
func (m mark) pieceOf(k int, b api.Block) ([]byte, bool) {
	from, to := m.piece(k)
	piece := b[markBytes : markBytes+to-from]
	return piece, m.block(k, piece) == b
}

// laidNext tells the sectors that the entry has as the ring's next one, and what is laid there.
func (r *Ring) laidNext(entry []byte) iter.Seq2[int, api.Block] {
	m := mark{turn: r.turn, number: r.next(), length: len(entry)}
	return func(yield func(sector int, b api.Block) bool) {
		for k := range Sectors(m.length) {
			from, to := m.piece(k)
			if !yield(r.sectorBehind(r.used+k), m.block(k, entry[from:to])) {
				return
			}
		}
	}
}

// gathers is how a ring comes to its entries: each call takes what the next place says, and tells whether one more is asked for.
func (r *Ring) gathers() func(b api.Block) bool {
	var m mark
	var entry []byte
	k := 0
	return func(b api.Block) bool {
		if k == 0 {
			m, entry = readMark(b), nil
		}
		piece, so := m.pieceOf(k, b)
		if !so || !r.takes(m) {
			return false
		}
		entry = append(entry, piece...)
		if k++; k == Sectors(m.length) {
			r.add(entry)
			k = 0
		}
		return r.next() <= lastNumber
	}
}

// takes says whether an entry of this mark may be the next one.
func (r *Ring) takes(m mark) bool {
	return m.number == r.next() && m.turn >= 1 && m.turn <= r.turn &&
		m.length <= api.MaxEntry && Sectors(m.length) <= r.Left()
}
