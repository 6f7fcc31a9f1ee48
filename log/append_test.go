package log_test

import (
	"math"
	"testing"

	"bursary/api"
	"bursary/log"
)

// P16.2: records of all Kinds, one behind the other; each is the last one then, in the tail, and nothing is done to the disk.
func TestAppend(t *testing.T) {
	k := format(t, 450)
	ops := k.disk.Ops()
	for i := range 40 {
		k.append(t, some(k.nextLsn(), i), i%3)
		tells(t, "Append", k.log, k.model)
	}
	if k.log.Flushed() != 0 || k.disk.Ops() != ops || len(k.disk.Pending()) > 0 {
		t.Fatalf("Flushed %d, %d operations", k.log.Flushed(), k.disk.Ops()-ops)
	}
	holds(t, "nothing is flushed", k.disk, k.model)
	k.flush(t, 7)
	k.truncate(t, 5, 6, 2)
	for i := range 9 {
		k.append(t, some(k.nextLsn(), i), 0)
		is(t, "Append behind a Truncate", k.disk, k.log, k.model)
	}
	k.open(t)
	k.append(t, begin(8), 0) // the tail is gone, and its Lsns are given anew
	is(t, "Append behind an Open", k.disk, k.log, k.model)
}

// P16.2: of nil, whatever else is wrong.
func TestAppendToNil(t *testing.T) {
	var l *log.Log
	for _, r := range append(strangeRecs(1), begin(1), begin(2), change(2, 16)) {
		for _, reserved := range []int{-1, 0, 400, 401} {
			expect(t, "Append to nil", l.Append(r, reserved), api.ErrNil)
		}
	}
}

// strangeReserves are numbers of sectors that may not be reserved.
func strangeReserves() []int {
	return []int{math.MinInt, -1 << 32, -400, -1, api.MaxLog + 1, api.MaxLog + 2, 1 << 32, 1<<32 + 1, math.MaxInt - 400, math.MaxInt - 1, math.MaxInt}
}

// P16.2: records that may not be, whatever is reserved, and whether there is room or not.
func TestAppendOfStrangeRecords(t *testing.T) {
	for _, k := range []*kept{format(t, 4), busy(t), crowded(t, api.MaxLog)} {
		for _, r := range append(strangeRecs(k.nextLsn()), strangeRecs(k.nextLsn()+1)...) {
			for _, reserved := range append(strangeReserves(), 0, api.MaxLog) {
				k.refused(t, "a record that may not be", api.ErrRec, func() api.Errno { return k.log.Append(r, reserved) })
			}
		}
	}
}

// P16.2: another Lsn than Next, below and above it, whether there is room or not.
func TestAppendOfOtherLsns(t *testing.T) {
	for _, k := range []*kept{format(t, 4), busy(t), crowded(t, api.MaxLog)} {
		next := k.nextLsn()
		for _, lsn := range []uint64{1, k.base - 1, k.base, next - 1, next + 1, next + 2, next + 1<<32, api.MaxLsn - 1, api.MaxLsn} {
			if lsn == next || lsn == 0 {
				continue
			}
			for _, reserved := range append(strangeReserves(), 0, api.MaxLog) {
				k.refused(t, "another Lsn", api.ErrArg, func() api.Errno { return k.log.Append(begin(lsn), reserved) })
			}
		}
	}
}

// P16.2: what is reserved is from 0 to MaxLog, whether there is room or not.
func TestAppendOfStrangeReserves(t *testing.T) {
	for _, k := range []*kept{format(t, 4), busy(t), crowded(t, api.MaxLog)} {
		for _, reserved := range strangeReserves() {
			k.refused(t, "what may not be reserved", api.ErrArg, func() api.Errno { return k.log.Append(begin(k.nextLsn()), reserved) })
		}
		k.refused(t, "all of the log", api.ErrLogFull, func() api.Errno { return k.log.Append(begin(k.nextLsn()), api.MaxLog) })
	}
}

// crowded is a log that uses that many sectors, some of them flushed.
func crowded(t *testing.T, used int) *kept {
	t.Helper()
	k := format(t, api.LogArea)
	k.append(t, begin(1), 0)
	for k.used(t) < used {
		r := change(k.nextLsn(), 16)
		if k.log.Used()+cost(t, r) > used {
			r = begin(k.nextLsn())
		}
		k.append(t, r, 0)
	}
	k.flush(t, 3)
	if k.log.Used() != used {
		t.Fatalf("%d are used, want %d", k.log.Used(), used)
	}
	return k
}

// P16.2: what is used, what the record costs, and what is reserved are MaxLog together, or one more; each of the three by turns great.
func TestAppendToFull(t *testing.T) {
	for _, used := range []int{170, 200, 347, 348, 349, 398, 399, 400} {
		for _, r := range []func(lsn uint64) api.Rec{
			begin,
			func(lsn uint64) api.Rec { return change(lsn, 1) },
			func(lsn uint64) api.Rec { return change(lsn, 16) },
			func(lsn uint64) api.Rec { return ckpt(lsn, 8, 64) },
		} {
			k := crowded(t, used)
			r := r(k.nextLsn())
			room := api.MaxLog - used - cost(t, r)
			for _, more := range []int{1, 2, 50} {
				if reserved := room + more; reserved >= 0 && reserved <= api.MaxLog {
					k.refused(t, "a sector too many", api.ErrLogFull, func() api.Errno { return k.log.Append(r, reserved) })
				}
			}
			if room < 0 {
				k.refused(t, "nothing reserved", api.ErrLogFull, func() api.Errno { return k.log.Append(r, 0) })
				continue
			}
			k.append(t, r, room)
			is(t, "just as many as there may be", k.disk, k.log, k.model)
			if k.log.Used() != api.MaxLog-room {
				t.Fatalf("%d are used, with room for %d", k.log.Used(), room)
			}
		}
	}
	k := format(t, api.LogArea)
	k.refused(t, "MaxLog reserved, of an empty log", api.ErrLogFull, func() api.Errno { return k.log.Append(begin(1), api.MaxLog) })
	k.append(t, begin(1), api.MaxLog-1)
}

// P16.2: what is reserved counts for its own call alone, and what is cut off gives room again.
func TestAppendKeepsNoReserve(t *testing.T) {
	k := format(t, api.LogArea)
	for range 20 {
		k.append(t, begin(k.nextLsn()), api.MaxLog-k.log.Used()-1)
	}
	k = crowded(t, api.MaxLog)
	full := func() api.Errno { return k.log.Append(begin(k.nextLsn()), 0) }
	k.refused(t, "full", api.ErrLogFull, full)
	k.flush(t, k.nextLsn()-1)
	k.refused(t, "full, flushed", api.ErrLogFull, full)
	k.open(t)
	k.refused(t, "full, opened", api.ErrLogFull, full)
	k.truncate(t, 2, 0, 1) // the first one has a sector
	k.append(t, begin(k.nextLsn()), 0)
	k.refused(t, "full again", api.ErrLogFull, full)
}

// P16.2: the ring's size counts for nothing: the tail may be longer.
func TestAppendToASmallRing(t *testing.T) {
	k := format(t, 4)
	for k.used(t) < api.MaxLog {
		k.append(t, begin(k.nextLsn()), 0)
	}
	k.refused(t, "full", api.ErrLogFull, func() api.Errno { return k.log.Append(begin(k.nextLsn()), 0) })
}

// P16.2: Next is MaxLsn: that is full, behind all other errors.
func TestAppendOfTheLastLsn(t *testing.T) {
	const last = api.MaxLsn - 1
	k := opens(t, "near the last Lsn", ringed(t, last-1, nil), model{base: last - 1, flushed: last - 2, next: 1})
	k.append(t, begin(last-1), 0)
	k.append(t, begin(last), api.MaxLog-2)
	for _, reserved := range []int{0, 1, api.MaxLog} {
		k.refused(t, "MaxLsn", api.ErrLogFull, func() api.Errno { return k.log.Append(begin(api.MaxLsn), reserved) })
	}
	k.refused(t, "MaxLsn, reserved too many", api.ErrArg, func() api.Errno { return k.log.Append(begin(api.MaxLsn), api.MaxLog+1) })
	k.refused(t, "the one ahead", api.ErrArg, func() api.Errno { return k.log.Append(begin(last), 0) })
	k.refused(t, "the one behind", api.ErrRec, func() api.Errno { return k.log.Append(begin(api.MaxLsn+1), 0) })
	k.flush(t, last)
	k.open(t)
}

// P16.2: to a log whose ring is broken, or whose disk is dead, records are appended all the same, for the disk is not asked.
func TestAppendToABrokenLog(t *testing.T) {
	k := busy(t)
	k.disk.Arm(0)
	expect(t, "Flush", k.log.Flush(7), api.ErrDead)
	ops := k.disk.Ops()
	k.fill(t, 3)
	k.refused(t, "another Lsn", api.ErrArg, func() api.Errno { return k.log.Append(begin(1), 0) })
	tells(t, "broken", k.log, k.model)
	if k.disk.Ops() != ops || !k.log.Broken() {
		t.Fatalf("%d operations; broken: %t", k.disk.Ops()-ops, k.log.Broken())
	}
}
