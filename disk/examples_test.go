package disk_test

import (
	"slices"
	"testing"

	"bursary/api"
	"bursary/disk"
)

// P2.2 to P2.5: the chapter's examples, call by call, all of one disk.
func TestExamples(t *testing.T) {
	d := made(t, 3)
	write := func(i int, x byte, want api.Errno) {
		t.Helper()
		expect(t, "Write", d.Write(i, api.Block{x}), want)
	}
	read := func(i int, want byte) {
		t.Helper()
		if b, e := d.Read(i); b != (api.Block{want}) || e != api.OK {
			t.Fatalf("Read(%d): %v, error %d; want the block %d", i, b, e, want)
		}
	}

	write(1, 5, api.OK)
	write(0, 6, api.OK)
	write(1, 7, api.OK)
	pending(t, d, 0, 1)
	read(1, 7)

	expect(t, "Crash", d.Crash([]bool{false, true}), api.OK)
	read(0, 0)
	read(1, 7)
	pending(t, d)

	expect(t, "Arm", d.Arm(1), api.OK)
	write(2, 8, api.OK)
	write(2, 9, api.ErrDead)
	expect(t, "Sync", d.Sync(), api.ErrDead)
	expect(t, "Crash", d.Crash([]bool{true}), api.OK)
	read(2, 9)

	expect(t, "Fail", d.Fail(0), api.OK)
	expect(t, "Sync", d.Sync(), api.ErrIo)
	expect(t, "Sync", d.Sync(), api.OK)
	write(3, 1, api.ErrArg)
}

// told is what a call answers: an error, the first byte of a block, a list.
type told struct {
	err   api.Errno
	first byte
	list  []int
}

// calls are calls of all kinds, for a disk of two sectors; turn names the blocks.
func calls(turn byte) []func(d *disk.Disk) told {
	read := func(i int) func(d *disk.Disk) told {
		return func(d *disk.Disk) told { b, e := d.Read(i); return told{err: e, first: b[0]} }
	}
	write := func(i int, x byte) func(d *disk.Disk) told {
		return func(d *disk.Disk) told { return told{err: d.Write(i, api.Block{x})} }
	}
	return []func(d *disk.Disk) told{
		read(0), read(2), write(0, turn), write(1, turn+1),
		func(d *disk.Disk) told { return told{err: d.Sync()} },
		func(d *disk.Disk) told { return told{err: d.Arm(1)} },
		func(d *disk.Disk) told { return told{err: d.Fail(1)} },
		func(d *disk.Disk) told { return told{err: d.Crash([]bool{false, true})} },
		func(d *disk.Disk) told { return told{list: d.Pending()} },
	}
}

// R5: the same calls are answered the same, of a copy that was made on the way, too.
func TestSameCallsSameAnswers(t *testing.T) {
	const long = 5
	kinds := len(calls(0))
	past := make([]int, long)
	for number := 0; number < kinds*kinds*kinds*kinds*kinds; number += 7 {
		for i, rest := 0, number; i < long; i, rest = i+1, rest/kinds {
			past[i] = rest % kinds
		}
		a, b := made(t, 2), made(t, 2)
		for i, kind := range past {
			x, y := calls(byte(3 * i))[kind](a), calls(byte(3 * i))[kind](b)
			if x.err != y.err || x.first != y.first || !slices.Equal(x.list, y.list) {
				t.Fatalf("call %d of %v: %v and %v", i, past, x, y)
			}
			b = b.Copy()
		}
		same(t, "behind the same calls", look(a), look(b))
	}
}
