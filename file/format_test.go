package file_test

import (
	"math"
	"testing"

	"bursary/api"
	"bursary/disk"
	"bursary/file"
)

// makers are both calls that make a file, by their names.
func makers() map[string]func(d *disk.Disk, base int) (*file.File, api.Errno) {
	return map[string]func(d *disk.Disk, base int) (*file.File, api.Errno){"Format": file.Format, "Open": file.Open}
}

// notMade calls what must not make a file.
func notMade(t *testing.T, name string, d *disk.Disk, base int, want api.Errno) {
	t.Helper()
	for call, do := range makers() {
		if f, e := do(d, base); f != nil || e != want {
			t.Fatalf("%s of %s, from %d on: %v, error %d, want %d", call, name, base, f, e, want)
		}
	}
}

// P14.1: no disk, whatever the base.
func TestNoDisk(t *testing.T) {
	for _, base := range []int{0, 4, -1, math.MinInt, math.MaxInt} {
		notMade(t, "no disk", nil, base, api.ErrNil)
	}
}

// P14.1: from which sectors on there may be a file.
func TestBase(t *testing.T) {
	for _, n := range []int{256, 257, 300, 709, api.MaxSectors} {
		d := holding(t, spoilt(n))
		for _, base := range []int{-1, -2, -256, math.MinInt, n - 255, n - 254, n - 1, n, n + 1, math.MaxInt, math.MaxInt - 255, math.MaxInt - 256} {
			refused(t, "a base that may not be", d, 0, api.ErrArg, func() api.Errno {
				notMade(t, "a disk", d, base, api.ErrArg)
				return api.ErrArg
			})
		}
		for _, base := range []int{0, (n - 256) / 2, n - 256} {
			for name, do := range makers() {
				f, e := do(holding(t, spoilt(n)), base)
				if f == nil || e != api.OK || f.Base() != base {
					t.Fatalf("%s of a disk of %d, from %d on: %v, error %d", name, n, base, f, e)
				}
			}
		}
	}
	for _, n := range []int{1, 4, 128, 255} {
		d := made(t, n)
		for _, base := range []int{0, 1, n - 256, n} {
			notMade(t, "a disk that is too small", d, base, api.ErrArg)
		}
	}
}

// P14.1: Format lays noughts in all sectors of the file, settled, over what stood there, and in no other one.
func TestFormat(t *testing.T) {
	for _, base := range []int{0, 4, 44} {
		d := holding(t, spoilt(300))
		for _, page := range []int{0, 5, 63} {
			expect(t, "Write", open(t, d, base).Write(page, 7, one(page)), api.OK)
		}
		before := said(d)
		f, e := file.Format(d, base)
		expect(t, "Format", e, api.OK)
		settled(t, "Format", d, written(before, formatSteps(base)))
		settled(t, "Format, behind a crash", d, behindCrash(d, nil))
		for page := range 64 {
			reads(t, "formatted", f, page, free, 0)
		}
		expect(t, "Write", f.Write(5, 8, one(5)), api.OK)
		reads(t, "formatted, written", f, 5, one(5), 8)
	}
}

// P14.1: which sectors Format writes, in which order, and where it stops.
func TestFormatStepByStep(t *testing.T) {
	for _, base := range []int{0, 4} {
		deed{steps: formatSteps(base), begin: func() (*disk.Disk, func() api.Errno) {
			d := holding(t, spoilt(260))
			return d, func() api.Errno {
				f, e := file.Format(d, base)
				if (f == nil) != (e != api.OK) {
					t.Fatalf("Format: %v, error %d", f, e)
				}
				return e
			}
		}}.check(t, "Format")
	}
}

// dead is a disk of those sectors, without power.
func dead(t *testing.T, sectors []api.Block) *disk.Disk {
	t.Helper()
	d := holding(t, sectors)
	d.Arm(0)
	expect(t, "a Sync at which the power goes", d.Sync(), api.ErrDead)
	return d
}

// P14.1: of a dead disk Format says so, behind a base that may not be; Open does not ask it.
func TestFormatOfADeadDisk(t *testing.T) {
	d := dead(t, spoilt(300))
	notMade(t, "a dead disk", d, 45, api.ErrArg)
	refused(t, "Format of a dead disk", d, 0, api.ErrDead, func() api.Errno {
		f, e := file.Format(d, 44)
		if f != nil {
			t.Fatalf("Format of a dead disk: %v", f)
		}
		return e
	})
	readsNothing(t, "a dead disk", open(t, d, 44), 0, api.ErrDead)
}

// P14.1: Open reads nothing and writes nothing, whatever stands there; neither the power goes at it, nor does it fail.
func TestOpenDoesNothing(t *testing.T) {
	for _, sectors := range [][]api.Block{spoilt(300), make([]api.Block, 300)} {
		d := holding(t, sectors)
		d.Write(50, mixed(-1))
		d.Arm(0)
		d.Fail(0)
		before, ops := behindCrash(d, all), d.Ops()
		for range 3 {
			open(t, d, 4)
		}
		if d.Ops() != ops || len(d.Pending()) != 1 || d.Dead() {
			t.Fatalf("Open: %d operations, %v are pending, dead: %t", d.Ops()-ops, d.Pending(), d.Dead())
		}
		sameSectors(t, "Open", behindCrash(d, all), before)
		readsNothing(t, "set to fail", open(t, d, 4), 0, api.ErrIo)
		expect(t, "armed", d.Sync(), api.ErrDead)
	}
}

// P14.1, R4: two files on one disk are two; two of one base tell the same.
func TestFilesOfOneDisk(t *testing.T) {
	d := holding(t, spoilt(600))
	a, e := file.Format(d, 3)
	expect(t, "Format", e, api.OK)
	b, e := file.Format(d, 259)
	expect(t, "Format", e, api.OK)
	for page := range 64 {
		expect(t, "Write", a.Write(page, uint64(page), one(page)), api.OK)
		expect(t, "Write", b.Write(63-page, uint64(page)+100, one(page+64)), api.OK)
	}
	for page := range 64 {
		reads(t, "the first file", a, page, one(page), uint64(page))
		reads(t, "the first file, opened", open(t, d, 3), page, one(page), uint64(page))
		reads(t, "the second file", b, 63-page, one(page+64), uint64(page)+100)
	}
	expect(t, "Write", open(t, d, 3).Write(9, 77, one(200)), api.OK)
	reads(t, "the first file", a, 9, one(200), 77)
}
