package ring_test

import (
	"math"
	"testing"

	"bursary/api"
	"bursary/disk"
	"bursary/ring"
)

// P4.1
func TestSectors(t *testing.T) {
	for _, q := range []struct{ n, want int }{
		{math.MinInt, 0}, {-53, 0}, {-52, 0}, {-1, 0}, {0, 1}, {1, 1}, {51, 1}, {52, 1}, {53, 2}, {103, 2}, {104, 2}, {105, 3}, {156, 3}, {157, 4},
		{api.MaxEntry - 1, 154}, {api.MaxEntry, 154}, {api.MaxEntry + 1, 154}, {8008, 154}, {8009, 155}, {1<<31 - 1, 41297763},
	} {
		if got := ring.Sectors(q.n); got != q.want {
			t.Errorf("Sectors(%d): %d, want %d", q.n, got, q.want)
		}
	}
	for n := range 3000 {
		if got := ring.Sectors(n); got != pieces(n) {
			t.Fatalf("Sectors(%d): %d, want %d", n, got, pieces(n))
		}
	}
	if got, want := ring.Sectors(math.MaxInt), math.MaxInt/52+1; got != want {
		t.Errorf("Sectors of all bytes: %d, want %d", got, want)
	}
}

// P4.1: rings of all sizes that may be at the limits, on disks with just as many sectors, and with more.
func TestFormat(t *testing.T) {
	for _, size := range []int{api.MinRing, api.MinRing + 1, 6, 7, api.MaxRing - 1, api.MaxRing} {
		for _, more := range []int{0, 1, 5} {
			l := format(t, size+2+more, size)
			if l.ring.First() != 1 || len(l.ring.All()) != 0 || len(l.ring.Note()) != 0 || l.ring.Left() != size {
				t.Fatalf("Format of %d: First %d, %v, %v, %d left", size, l.ring.First(), l.ring.All(), l.ring.Note(), l.ring.Left())
			}
			l.append(t, mixed(53, 1))
			l.open(t)
		}
	}
	format(t, api.MaxSectors, api.MinRing)
	format(t, api.MaxSectors, api.MaxRing)
}

// P4.1: sizes that may not be, and disks that have too few sectors; a dead disk is not asked for that.
func TestFormatRefuses(t *testing.T) {
	sizes := func(d *disk.Disk, few ...int) {
		t.Helper()
		before, ops := behindCrash(d, all), d.Ops()
		for _, size := range append(few, math.MinInt, -1, 0, 1, 2, api.MinRing-1, api.MaxRing+1, math.MaxInt-2, math.MaxInt-1, math.MaxInt) {
			if r, e := ring.Format(d, size); r != nil || e != api.ErrArg {
				t.Fatalf("Format(%d): %v, error %d", size, r, e)
			}
		}
		if d.Ops() != ops {
			t.Fatalf("%d operations", d.Ops()-ops)
		}
		sameSectors(t, "what was refused", behindCrash(d, all), before)
	}
	sizes(holding(t, spoilt(api.MaxSectors)))
	sizes(holding(t, spoilt(8)), 7, 8, api.MaxRing)
	sizes(holding(t, spoilt(5)), 4)
	sizes(holding(t, spoilt(1)), 4)
	sizes(holding(t, spoilt(api.MaxRing+1)), api.MaxRing)
	d := holding(t, spoilt(8))
	d.Arm(0)
	d.Sync()
	sizes(d, 7)
	if r, e := ring.Format(d, 6); r != nil || e != api.ErrDead {
		t.Fatalf("Format of a dead disk: %v, error %d", r, e)
	}
}

// P4.1, R4: nil goes ahead of a size that may not be.
func TestFormatOfNil(t *testing.T) {
	for _, size := range []int{math.MinInt, -1, 0, 3, 4, 1000, 1001, math.MaxInt} {
		if r, e := ring.Format(nil, size); r != nil || e != api.ErrNil {
			t.Errorf("Format(nil, %d): %v, error %d", size, r, e)
		}
	}
}

// P4.1: what Format writes, in which order, and where it stops.
func TestFormatStepByStep(t *testing.T) {
	for _, size := range []int{4, 6, 9} {
		deed{steps: formatSteps(size), begin: func() (*disk.Disk, func() api.Errno) {
			d := holding(t, spoilt(size+4))
			return d, func() api.Errno {
				r, e := ring.Format(d, size)
				if (r != nil) != (e == api.OK) {
					t.Fatalf("Format: %v, error %d", r, e)
				}
				return e
			}
		}}.check(t, "Format")
	}
}

// P4.1: over an older ring there is a new one, whatever that one had.
func TestFormatAgain(t *testing.T) {
	for _, size := range []int{4, 6, 8} {
		l := format(t, 10, 6)
		l.append(t, mixed(104, 1))
		l.append(t, mixed(53, 2))
		l.cut(t, 1, mixed(9, 3))
		l.append(t, mixed(150, 4))
		r, e := ring.Format(l.disk, size)
		expect(t, "Format", e, api.OK)
		l.ring, l.model = r, formatted(l.sectors, size)
		is(t, "Format again", l.disk, l.ring, l.model)
		l.open(t)
		l.append(t, mixed(1, 5))
		l.open(t)
	}
}
