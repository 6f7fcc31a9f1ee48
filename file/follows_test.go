package file_test

import (
	"fmt"
	"math/rand"
	"slices"
	"testing"

	"bursary/api"
	"bursary/disk"
)

// busy is the sectors of a file whose pages were written none to three times, each with others.
func busy(t *testing.T) []api.Block {
	t.Helper()
	d := holding(t, spoilt(base+256+3))
	f := open(t, d, base)
	for page := range 64 {
		for i := range page % 4 {
			expect(t, "Write", f.Write(page, uint64(100*page+i), one(3*page+i)), api.OK)
		}
	}
	return said(d)
}

// busyPages are pages that were written none to three times, at the ends and between.
func busyPages() []int {
	return []int{0, 1, 2, 3, 29, 62, 63}
}

// everyOther is a keep that keeps every other one, from the one at first on.
func everyOther(first int) []bool {
	keep := make([]bool, api.MaxSectors)
	for i := first; i < len(keep); i += 2 {
		keep[i] = true
	}
	return keep
}

// others asks for all sectors but those of that page as they were, and for all other pages.
func others(t *testing.T, name string, d *disk.Disk, page int, was []api.Block) {
	t.Helper()
	now := said(d)
	from := slotAt(base, page, 0)
	sameSectors(t, name+", ahead of the page", now[:from], was[:from])
	sameSectors(t, name+", behind the page", now[from+4:], was[from+4:])
	f := open(t, d, base)
	for num := range 64 {
		if num != page {
			s := says(was, base, num)
			reads(t, name+", another page", f, num, s.content, s.lsn)
		}
	}
}

// P14.5: what was written is read, behind a crash that keeps everything, nothing, every other sector; and no other page is changed.
func TestWrittenIsRead(t *testing.T) {
	was := busy(t)
	for _, page := range busyPages() {
		for i, c := range contents() {
			for k, keep := range [][]bool{all, nil, everyOther(0), everyOther(1)} {
				name := fmt.Sprintf("content %d, keep %d", i, k)
				d := holding(t, was)
				f := open(t, d, base)
				readsAll(t, name, f, was)
				expect(t, name, f.Write(page, newLsn, c), api.OK)
				reads(t, name, f, page, c, newLsn)
				expect(t, name, d.Crash(keep), api.OK)
				reads(t, name+", behind a crash", f, page, c, newLsn)
				reads(t, name+", opened", open(t, d, base), page, c, newLsn)
				others(t, name, d, page, was)
			}
		}
	}
}

// P14.5: of all pages, written one behind the other, each is read, behind all crashes between.
func TestAllAreRead(t *testing.T) {
	d := holding(t, busy(t))
	f := open(t, d, base)
	for round := range 3 {
		for i := range 64 {
			page := (i*13 + round) % 64
			expect(t, "Write", f.Write(page, uint64(round), one(1000*round+page)), api.OK)
			d.Crash(everyOther(i % 2))
		}
		for page := range 64 {
			reads(t, fmt.Sprintf("round %d", round), f, page, one(1000*round+page), uint64(round))
		}
	}
}

// cut is a way to cut a Write off, or to let it fail; how many of its parts are pending then.
type cut struct {
	name    string
	set     func(d *disk.Disk)
	want    api.Errno
	pending int
}

// cuts are all of them, and the one that is not cut.
func cuts() []cut {
	out := []cut{{"not cut", func(*disk.Disk) {}, api.OK, 0}}
	for n, pending := range []int{1, 2, 2} {
		out = append(out, cut{fmt.Sprintf("armed with %d", n), func(d *disk.Disk) { d.Arm(n) }, api.ErrDead, pending})
	}
	for n, pending := range []int{0, 0, 0, 0, 0, 1, 2} {
		out = append(out, cut{fmt.Sprintf("set to fail with %d", n), func(d *disk.Disk) { d.Fail(n) }, api.ErrIo, pending})
	}
	return out
}

// whatIs is a page's content and Lsn.
type whatIs struct {
	content api.Content
	lsn     uint64
}

// losses writes to a page of those sectors, cut in each way, lets the power go and come back with each choice of what is kept, and asks for what was, or what the Write would have, whichever it must be. It hands on each disk, and what its page holds then.
func losses(t *testing.T, sectors []api.Block, page int, was, would whatIs, use func(name string, d *disk.Disk, is whatIs)) {
	t.Helper()
	for _, q := range cuts() {
		d := holding(t, sectors)
		q.set(d)
		expect(t, q.name, open(t, d, base).Write(page, would.lsn, would.content), q.want)
		if got := len(d.Pending()); got != q.pending {
			t.Fatalf("%s: %d are pending, want %d", q.name, got, q.pending)
		}
		for _, keep := range choices(q.pending) {
			name := fmt.Sprintf("page %d, %s, kept %v", page, q.name, keep)
			c := d.Copy()
			expect(t, name, c.Crash(keep), api.OK)
			is := was
			if q.want == api.OK || q.pending == 2 && !slices.Contains(keep, false) {
				is = would
			}
			reads(t, name, open(t, c, base), page, is.content, is.lsn)
			use(name, c, is)
		}
	}
}

// P14.5: a Write that is cut off, or fails, leaves behind a crash what was, or what it would have; so does the next one behind it; and no other page is changed.
func TestWriteCutOff(t *testing.T) {
	sectors := busy(t)
	for _, page := range busyPages() {
		s := says(sectors, base, page)
		was, x, y := whatIs{s.content, s.lsn}, whatIs{contents()[8], 5}, whatIs{contents()[10], 6}
		losses(t, sectors, page, was, x, func(name string, d *disk.Disk, is whatIs) {
			others(t, name, d, page, sectors)
			losses(t, said(d), page, is, y, func(again string, d *disk.Disk, is whatIs) {
				name := name + "; " + again
				f := open(t, d, base)
				expect(t, name, f.Write(page, 7, one(900)), api.OK)
				reads(t, name, f, page, one(900), 7)
				d.Crash(nil)
				reads(t, name, f, page, one(900), 7)
			})
		})
	}
}

// P14.5: a Write that fails leaves, ahead of a crash, too, what was, or what it would have, and the next one is done.
func TestWriteThatFails(t *testing.T) {
	sectors := busy(t)
	for _, page := range busyPages() {
		s := says(sectors, base, page)
		for n := range 7 {
			d := holding(t, sectors)
			f := open(t, d, base)
			d.Fail(n)
			expect(t, "Write", f.Write(page, newLsn, one(900)), api.ErrIo)
			if n == 6 {
				reads(t, "not synced", f, page, one(900), newLsn)
			} else {
				reads(t, "failed", f, page, s.content, s.lsn)
			}
			others(t, "failed", d, page, sectors)
			expect(t, "Write", f.Write(page, 8, one(901)), api.OK)
			d.Crash(nil)
			reads(t, "behind one that failed", f, page, one(901), 8)
			others(t, "behind one that failed", d, page, sectors)
		}
	}
}

// P14.5: parts of two Writes that were cut off, one behind the other, never make a slot that is right, even of the same content and Lsn.
func TestTwoTornWritesNeverGoTogether(t *testing.T) {
	sectors := busy(t)
	x := whatIs{contents()[8], 5}
	for _, page := range busyPages() {
		s := says(sectors, base, page)
		was := whatIs{s.content, s.lsn}
		for _, first := range [][]bool{{true, false}, {false, true}} {
			d := holding(t, sectors)
			d.Arm(1)
			expect(t, "Write", open(t, d, base).Write(page, x.lsn, x.content), api.ErrDead)
			d.Crash(first)
			for _, second := range [][]bool{{true, false}, {false, true}} {
				c := d.Copy()
				c.Arm(1)
				expect(t, "Write", open(t, c, base).Write(page, x.lsn, x.content), api.ErrDead)
				c.Crash(second)
				reads(t, fmt.Sprintf("%v and %v kept", first, second), open(t, c, base), page, was.content, was.lsn)
			}
		}
	}
}

// P14.5: through many losses, of all pages, there is always what was, or what was under way.
func TestManyLosses(t *testing.T) {
	for seed := range int64(20) {
		chance := rand.New(rand.NewSource(seed))
		d := holding(t, spoilt(263))
		f := open(t, d, base)
		is := make([]whatIs, 64)
		for i := range 300 {
			page := chance.Intn(1 + chance.Intn(64))
			would := whatIs{contents()[chance.Intn(len(contents()))], uint64(i)}
			switch chance.Intn(3) {
			case 0:
				d.Arm(chance.Intn(4))
			case 1:
				d.Fail(chance.Intn(8))
			}
			e := f.Write(page, would.lsn, would.content)
			d.Crash(choices(2)[chance.Intn(4)])
			c, lsn, _ := f.Read(page)
			switch went := lsn == would.lsn && alike(c, would.content); {
			case went:
				is[page] = would
			case e == api.OK:
				t.Fatalf("seed %d, step %d: what was answered OK is lost", seed, i)
			}
			reads(t, "behind a loss", f, page, is[page].content, is[page].lsn)
		}
		for page := range 64 {
			reads(t, fmt.Sprintf("seed %d", seed), f, page, is[page].content, is[page].lsn)
		}
		now, was := said(d), spoilt(263)
		sameSectors(t, "ahead of the file", now[:base], was[:base])
		sameSectors(t, "behind the file", now[base+256:], was[base+256:])
	}
}
