package ring

import (
	"bursary/api"
	"bursary/disk"
	"bursary/octet"
)

// letters are what a head's sector begins with.
const letters = "bursring"

// lastNumber is the greatest number that an entry may have; a head may say one more, if there is none any more.
const lastNumber = 1<<40 - 1

// head is what a head's sector says.
type head struct {
	turn  uint32
	size  int    // places
	first uint64 // the first entry's number
	place int    // the first entry's
	note  []byte
}

// headThatCounts is the right one with the greatest turn; if none is right, one that may not be.
func headThatCounts(d *disk.Disk) (head, api.Errno) {
	var counts head
	why := read(d, firstSectors(api.RingHeads), func(b api.Block) bool {
		if h, right := readHead(b); right && h.turn > counts.turn {
			counts = h
		}
		return true
	})
	return counts, why
}

// readHead is the head that a sector says, and whether it is right.
func readHead(b api.Block) (head, bool) {
	r := octet.Read(b[len(letters):])
	h := head{turn: r.U32(), size: int(r.U16()), first: number(r), place: int(r.U16())}
	h.note = r.Raw(int(r.U8()))
	// Only a right head is laid as the sector is: letters and noughts need no look of their own.
	return h, h.mayBe() && h.block() == b
}

// mayBe says whether all that the head says is within its limits.
func (h head) mayBe() bool {
	return h.turn >= 1 && h.turn <= api.MaxTurn &&
		h.size >= api.MinRing && h.size <= api.MaxRing &&
		h.first >= 1 && h.first <= lastNumber+1 &&
		h.place < h.size && len(h.note) <= api.RingNote
}

// block is the head's sector.
func (h head) block() api.Block {
	b := octet.Put32([]byte(letters), h.turn)
	b = octet.Put16(b, uint16(h.size))
	b = putNumber(b, h.first)
	b = octet.Put16(b, uint16(h.place))
	b = append(b, byte(len(h.note)))
	b = append(b, h.note...)
	return block(b)
}

// laid tells the head's sector, and what is laid there: by turns in both, so that the head that counted up to now stays.
func (h head) laid(yield func(sector int, b api.Block) bool) {
	yield(int(h.turn%api.RingHeads), h.block())
}

// places tells the sectors of all places, from the first entry's on.
func (h head) places(yield func(sector int) bool) {
	for nth := range h.size {
		if !yield(h.sectorBehind(nth)) {
			return
		}
	}
}

// sectorBehind is the sector of the place that is n places behind the first entry's.
func (h head) sectorBehind(n int) int {
	return api.RingHeads + h.placeBehind(n)
}

// placeBehind is the place that is n places behind the first entry's: behind the last one comes the first one.
func (h head) placeBehind(n int) int {
	at := h.place + n
	if at >= h.size {
		at -= h.size
	}
	return at
}

// number is an entry's number, in the next five bytes.
func number(r *octet.Reader) uint64 {
	high := uint64(r.U8())
	return high<<32 | uint64(r.U32())
}

// putNumber is b, and an entry's number behind it.
func putNumber(b []byte, x uint64) []byte {
	return octet.Put32(append(b, byte(x>>32)), uint32(x))
}

// block is those bytes, and noughts up to the sector's end.
func block(b []byte) api.Block {
	var out api.Block
	copy(out[:], b)
	return out
}
