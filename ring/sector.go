package ring

import (
	"iter"

	"bursary/api"
	"bursary/disk"
)

// lay writes the sectors of each group, one behind the other, with a sync behind each group: a group is begun when those ahead of it are settled. It answers the first error.
func lay(d *disk.Disk, groups ...iter.Seq2[int, api.Block]) api.Errno {
	why := api.OK
groups:
	for _, group := range groups {
		for sector, b := range group {
			if why = d.Write(sector, b); why != api.OK {
				break groups
			}
		}
		if why = d.Sync(); why != api.OK {
			break groups
		}
	}
	return why
}

// read hands what the sectors say to use, one behind the other, as long as that asks for more. It answers the first error.
func read(d *disk.Disk, sectors iter.Seq[int], use func(b api.Block) bool) api.Errno {
	for sector := range sectors {
		b, why := d.Read(sector)
		if why != api.OK {
			return why
		}
		if !use(b) {
			break
		}
	}
	return api.OK
}

// firstSectors tells the first n sectors.
func firstSectors(n int) iter.Seq[int] {
	return func(yield func(sector int) bool) {
		for sector := range n {
			if !yield(sector) {
				return
			}
		}
	}
}

// noughts tells the first n sectors, and that noughts are laid there.
func noughts(n int) iter.Seq2[int, api.Block] {
	return func(yield func(sector int, b api.Block) bool) {
		for sector := range firstSectors(n) {
			if !yield(sector, api.Block{}) {
				return
			}
		}
	}
}
