package file

import (
	"iter"

	"bursary/api"
)

// pageSlots is how many slots a page has.
const pageSlots = 2

// slot is what the sectors of a slot say.
type slot struct {
	nth     int    // of its page
	stamp   uint64 // the greatest one of its right parts; 0, if none is right
	right   bool   // else it has neither Lsn nor content
	lsn     uint64
	content api.Content
}

// state is what the slots of a page say together.
type state struct {
	counts slot   // the slot that counts; if neither is right, a zero one
	next   int    // the slot that the next write goes to
	stamp  uint64 // the greatest one of all right parts
}

// look reads the slots of a page.
func (f *File) look(num int) (state, api.Errno) {
	var all state
	for s, why := range f.slots(num) {
		if why != api.OK {
			return state{}, why
		}
		all.stamp = max(all.stamp, s.stamp)
		// A right slot's stamp is above 0, which is that of the zero one.
		if s.right && s.stamp > all.counts.stamp {
			all.counts = s
			all.next = pageSlots - 1 - s.nth
		}
	}
	return all, api.OK
}

// slots tells what the slots of a page say, in order, up to the disk's first error.
func (f *File) slots(num int) iter.Seq2[slot, api.Errno] {
	return func(yield func(s slot, why api.Errno) bool) {
		for nth := range pageSlots {
			s, why := f.slot(num, nth)
			if !yield(s, why) || why != api.OK {
				return
			}
		}
	}
}

// slot reads a slot of a page.
func (f *File) slot(num, nth int) (slot, api.Errno) {
	var blocks [api.SlotSectors]api.Block
	for part, sector := range f.sectors(slotAt(num, nth)) {
		b, why := f.disk.Read(sector)
		if why != api.OK {
			return slot{}, why
		}
		blocks[part] = b
	}
	return readSlot(num, nth, blocks), api.OK
}

// readSlot is what those sectors say as a slot of that page. It is right if one write laid all of them.
func readSlot(num, nth int, blocks [api.SlotSectors]api.Block) slot {
	s := slot{nth: nth}
	var marks []mark
	var data []byte
	for part, b := range blocks {
		m, piece, right := readPart(num, part, b)
		if !right {
			continue
		}
		s.stamp = max(s.stamp, m.stamp)
		marks = append(marks, m)
		data = append(data, piece...)
	}
	if len(marks) < api.SlotSectors || marks[0] != marks[1] || s.stamp == 0 {
		return s
	}
	if s.content, s.right = readData(data); s.right {
		s.lsn = marks[0].lsn
	}
	return s
}

// lay writes n slots, from the place first on, and syncs. It answers the first error, and does nothing behind that.
func (f *File) lay(first, n int, what func(part int) api.Block) api.Errno {
	why := api.OK
row:
	for nth := range n {
		for part, sector := range f.sectors(first + nth) {
			if why = f.disk.Write(sector, what(part)); why != api.OK {
				break row
			}
		}
	}
	if why == api.OK {
		why = f.disk.Sync()
	}
	return why
}

// slotAt is the place of a page's slot among all slots of the file.
func slotAt(num, nth int) int {
	return num*pageSlots + nth
}

// sectors tells the parts of the slot at that place, and their sectors.
func (f *File) sectors(place int) iter.Seq2[int, int] {
	return func(yield func(part, sector int) bool) {
		for part := range api.SlotSectors {
			if !yield(part, f.base+place*api.SlotSectors+part) {
				return
			}
		}
	}
}
