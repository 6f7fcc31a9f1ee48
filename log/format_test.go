package log_test

import (
	"math"
	"testing"

	"bursary/api"
	"bursary/disk"
	"bursary/log"
)

// formatFails asks Format for an error, and for nothing beside it.
func formatFails(t *testing.T, name string, d *disk.Disk, area int, want api.Errno) {
	t.Helper()
	if l, e := log.Format(d, area); l != nil || e != want {
		t.Fatalf("%s: %v, error %d, want %d", name, l, e, want)
	}
}

// P16.1: an empty log in each area that there may be, the smallest and the greatest, on a disk that has just as many sectors, and more.
func TestFormat(t *testing.T) {
	for _, area := range []int{api.MinRing, api.MinRing + 1, api.MaxLog, api.LogArea, api.MaxRing - 1, api.MaxRing} {
		for _, more := range []int{0, 1, 100} {
			d := made(t, area+2+more)
			l, e := log.Format(d, area)
			expect(t, "Format", e, api.OK)
			k := &kept{d, l, empty()}
			is(t, "Format", d, l, k.model)
			if l.Base() != 1 || l.Next() != 1 || l.Flushed() != 0 || l.Master() != 0 || l.NextTxn() != 1 || l.Used() != 0 || len(l.Recs(0)) != 0 {
				t.Fatalf("of %d: %v", area, l)
			}
			k.open(t)
			k.fill(t, 2)
			k.flush(t, 2)
			k.open(t)
		}
	}
}

// P16.1: the ring has as many places as are asked for, and no more.
func TestFormatIsOfThatArea(t *testing.T) {
	k := format(t, 4)
	for range 5 {
		k.append(t, begin(k.nextLsn()), 0)
	}
	k.flush(t, 4)
	expect(t, "Flush of a fifth one", k.log.Flush(5), api.ErrFull)
	d := made(t, 100)
	l, e := log.Format(d, 5)
	expect(t, "Format", e, api.OK)
	k = &kept{d, l, empty()}
	for range 6 {
		k.append(t, begin(k.nextLsn()), 0)
	}
	k.flush(t, 5)
	expect(t, "Flush of a sixth one", k.log.Flush(6), api.ErrFull)
}

// P16.1: areas that may not be, and disks that are too small; ahead of what the disk says.
func TestFormatOfOtherAreas(t *testing.T) {
	for _, area := range []int{math.MinInt, -1, 0, 1, 2, 3, api.MaxRing + 1, 1 << 16, 1<<16 + 4, 1 << 32, 1<<32 + 4, math.MaxInt - 1, math.MaxInt} {
		d := made(t, api.MaxSectors)
		formatFails(t, "an area that may not be", d, area, api.ErrArg)
		if d.Ops() != 0 {
			t.Fatalf("%d operations", d.Ops())
		}
		formatFails(t, "on a dead disk", dead(t, api.MaxSectors), area, api.ErrArg)
		formatFails(t, "on no disk", nil, area, api.ErrNil)
	}
	for _, area := range []int{4, 5, api.LogArea, api.MaxRing} {
		formatFails(t, "a disk too small", made(t, area+1), area, api.ErrArg)
		formatFails(t, "a disk of a sector", made(t, 1), area, api.ErrArg)
		formatFails(t, "a dead disk", dead(t, area+2), area, api.ErrDead)
		formatFails(t, "no disk", nil, area, api.ErrNil)
	}
}

// P16.1: the disk's error at each of the operations that a Format has.
func TestFormatOfADiskThatFails(t *testing.T) {
	const area = 4
	d := made(t, area+2)
	if _, e := log.Format(d, area); e != api.OK {
		t.Fatal(e)
	}
	all := d.Ops()
	for n := range all + 1 {
		armed, fails := made(t, area+2), made(t, area+2)
		armed.Arm(n)
		fails.Fail(n)
		if n == all {
			if _, e := log.Format(armed, area); e != api.OK {
				t.Fatal(e)
			}
			continue
		}
		formatFails(t, "armed", armed, area, api.ErrDead)
		formatFails(t, "set to fail", fails, area, api.ErrIo)
	}
}

// P16.1: over an older log, and over what is none, there is an empty one.
func TestFormatOverAnother(t *testing.T) {
	k := busy(t)
	for _, area := range []int{40, 30, 4} {
		l, e := log.Format(k.disk, area)
		expect(t, "Format", e, api.OK)
		k.log, k.model = l, empty()
		is(t, "Format over another one", k.disk, l, k.model)
		k.open(t)
		k.fill(t, 3)
		k.flush(t, 3)
		k.truncate(t, 2, 2, 5)
	}
	d := made(t, 6)
	headAt(t, d, 1, 7, 4, []byte{1})
	l, e := log.Format(d, 4)
	expect(t, "Format", e, api.OK)
	is(t, "Format over what is no log", d, l, empty())
}
