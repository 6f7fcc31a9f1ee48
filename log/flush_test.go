package log_test

import (
	"math"
	"testing"

	"bursary/api"
	"bursary/log"
	"bursary/ring"
)

// P16.3: to each Lsn from 0 on, from each Flushed on: what is flushed already stays, and nothing is done of it.
func TestFlush(t *testing.T) {
	for first := range uint64(8) {
		for to := range uint64(9) {
			k := busy(t)
			if first > k.flushed {
				k.flush(t, first)
			}
			if to == 0 || to <= k.flushed {
				k.refused(t, "nothing is left to be flushed", api.OK, func() api.Errno { return k.log.Flush(to) })
			}
			k.flush(t, to)
			if want := max(first, to, 6); k.log.Flushed() != want {
				t.Fatalf("Flushed %d, want %d", k.log.Flushed(), want)
			}
			k.open(t)
		}
	}
}

// P16.3: each record is laid by itself, with a sync of its own, in order; none is laid twice.
func TestFlushIsOneAppendEach(t *testing.T) {
	k := format(t, 450)
	k.fill(t, 12)
	d := k.disk.Copy()
	r, e := ring.Open(d)
	expect(t, "ring.Open", e, api.OK)
	want, before := d.Ops(), k.disk.Ops()
	for _, to := range []uint64{5, 5, 3, 9, 12, 12, 0} {
		k.flush(t, to)
	}
	for _, x := range k.records {
		expect(t, "ring.Append", r.Append(bytesOf(t, x)), api.OK)
	}
	if got := k.disk.Ops() - before; got != d.Ops()-want {
		t.Fatalf("%d operations, want %d", got, d.Ops()-want)
	}
}

// P16.3: to is below Next; of an empty log, too.
func TestFlushOfTooMany(t *testing.T) {
	for _, k := range []*kept{format(t, 4), busy(t), crowded(t, api.MaxLog)} {
		for _, to := range []uint64{k.nextLsn(), k.nextLsn() + 1, 1 << 32, api.MaxLsn, 1 << 63, math.MaxUint64} {
			k.refused(t, "Flush", api.ErrArg, func() api.Errno { return k.log.Flush(to) })
		}
		for to := range k.flushed + 1 {
			k.refused(t, "Flush of none", api.OK, func() api.Errno { return k.log.Flush(to) })
		}
	}
	k := format(t, 20)
	k.fill(t, 3)
	k.flush(t, 3)
	k.truncate(t, 4, 0, 1)
	k.refused(t, "Flush of none", api.OK, func() api.Errno { return k.log.Flush(3) })
	k.refused(t, "Flush of Next", api.ErrArg, func() api.Errno { return k.log.Flush(4) })
}

// P16.3: of nil.
func TestFlushOfNil(t *testing.T) {
	var l *log.Log
	for _, to := range []uint64{0, 1, math.MaxUint64} {
		expect(t, "Flush", l.Flush(to), api.ErrNil)
	}
}

// tailed is a log whose tail has records of several sectors, behind one that is flushed.
func tailed(t *testing.T) *kept {
	t.Helper()
	k := format(t, 60)
	k.append(t, begin(1), 0)
	k.flush(t, 1)
	k.append(t, change(2, 1), 0)
	k.append(t, begin(3), 0)
	k.append(t, ckpt(4, 4, 3), 0)
	k.append(t, begin(5), 0)
	return k
}

// writesOf is how many Writes and Syncs a flush of a record does.
func writesOf(t *testing.T, r api.Rec) int {
	t.Helper()
	return cost(t, r) + 1
}

// P16.3: the power goes at each Write and Sync in turn, or the disk fails there: those ahead are flushed, that one is not, and it stays so.
func TestFlushOfADiskThatFails(t *testing.T) {
	all := 0
	for _, r := range tailed(t).records[1:] {
		all += writesOf(t, r)
	}
	for n := range all + 1 {
		flushed, left := uint64(1), n
		for _, r := range tailed(t).records[1:] {
			if left -= writesOf(t, r); left >= 0 {
				flushed = r.Lsn
			}
		}
		for _, want := range []api.Errno{api.ErrDead, api.ErrIo} {
			k := tailed(t)
			if want == api.ErrDead {
				k.disk.Arm(n)
			} else {
				k.disk.Fail(n)
			}
			ops := k.disk.Ops()
			if n == all {
				k.flush(t, 5)
				continue
			}
			expect(t, "Flush", k.log.Flush(5), want)
			if k.disk.Ops() != ops+n+1 {
				t.Fatalf("%d operations, want %d", k.disk.Ops()-ops, n+1)
			}
			k.model = k.model.flushedTo(flushed)
			staysBroken(t, k)
		}
	}
}

// staysBroken asks a log whose ring is broken: it tells what it told, nothing is flushed and cut off any more, and what asks for neither is answered.
func staysBroken(t *testing.T, k *kept) {
	t.Helper()
	if !k.log.Broken() {
		t.Fatal("not broken")
	}
	tells(t, "broken", k.log, k.model)
	k.refused(t, "Flush of none", api.OK, func() api.Errno { return k.log.Flush(k.flushed) })
	k.refused(t, "Flush of Next", api.ErrArg, func() api.Errno { return k.log.Flush(k.nextLsn()) })
	if k.flushed+1 < k.nextLsn() {
		k.refused(t, "Flush of one", api.ErrIo, func() api.Errno { return k.log.Flush(k.flushed + 1) })
		k.refused(t, "Flush of all", api.ErrIo, func() api.Errno { return k.log.Flush(k.nextLsn() - 1) })
	}
	for _, from := range []uint64{k.base, k.flushed, k.flushed + 1} {
		k.refused(t, "Truncate", api.ErrIo, func() api.Errno { return k.log.Truncate(from, k.flushed, 5) })
	}
	k.refused(t, "Truncate ahead of all", api.ErrArg, func() api.Errno { return k.log.Truncate(k.base-1, 0, 5) })
	k.refused(t, "Truncate of the tail", api.ErrArg, func() api.Errno { return k.log.Truncate(k.flushed+2, 0, 5) })
	k.refused(t, "Truncate of a master that is not flushed", api.ErrArg, func() api.Errno { return k.log.Truncate(k.base, k.flushed+1, 5) })
	k.refused(t, "Truncate of no number", api.ErrArg, func() api.Errno { return k.log.Truncate(k.base, 0, 0) })
	k.disk.Crash(nil)
	if !k.log.Broken() {
		t.Fatal("not broken, behind a Crash")
	}
	k.refused(t, "Truncate behind a Crash", api.ErrIo, func() api.Errno { return k.log.Truncate(k.base, 0, 5) })
}

// P16.3: a dead disk.
func TestFlushOfADeadDisk(t *testing.T) {
	k := tailed(t)
	k.disk.Arm(0)
	k.disk.Sync()
	k.refused(t, "Flush of none", api.OK, func() api.Errno { return k.log.Flush(1) })
	if k.log.Broken() {
		t.Fatal("broken by nothing")
	}
	k.refused(t, "Flush", api.ErrDead, func() api.Errno { return k.log.Flush(2) })
	staysBroken(t, k)
}

// P16.3: a ring that has no room: those that had it are flushed, it is not broken, and behind a Truncate the others have room, too.
func TestFlushToAFullRing(t *testing.T) {
	k := format(t, 5)
	for range 3 {
		k.append(t, begin(k.nextLsn()), 0)
	}
	k.append(t, change(4, 1), 0) // four sectors
	k.append(t, begin(5), 0)
	expect(t, "Flush", k.log.Flush(5), api.ErrFull)
	k.model = k.model.flushedTo(3)
	is(t, "those that had room", k.disk, k.log, k.model)
	for range 2 {
		k.refused(t, "Flush of one that has no room", api.ErrFull, func() api.Errno { return k.log.Flush(4) })
		k.refused(t, "Flush of one that has room, behind it", api.ErrFull, func() api.Errno { return k.log.Flush(5) })
	}
	k.truncate(t, 3, 0, 1)
	k.flush(t, 4)
	k.refused(t, "Flush of the next one", api.ErrFull, func() api.Errno { return k.log.Flush(5) })
	k.truncate(t, 4, 0, 1)
	k.flush(t, 5)
	k.open(t)
}
