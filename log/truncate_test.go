package log_test

import (
	"math"
	"slices"
	"testing"

	"bursary/api"
	"bursary/log"
)

// P16.4: from each Lsn that there may be, with a tail and without, with each master that there may be; behind it all goes on.
func TestTruncate(t *testing.T) {
	for _, tail := range []bool{true, false} {
		for from := uint64(4); from <= 9; from++ {
			for master := range uint64(9) {
				k := busy(t)
				if !tail {
					k.flush(t, 8)
				}
				if from > k.flushed+1 || master > k.flushed {
					k.refused(t, "Truncate", api.ErrArg, func() api.Errno { return k.log.Truncate(from, master, 9) })
					continue
				}
				k.truncate(t, from, master, int(from+master))
				k.fill(t, 1)
				tells(t, "behind a Truncate", k.log, k.model)
				k.flush(t, k.nextLsn()-1)
				k.truncate(t, k.nextLsn(), 0, 1)
				k.open(t)
			}
		}
	}
}

// P16.4: the tail stays, and so does what is told of it.
func TestTruncateLeavesTheTail(t *testing.T) {
	k := busy(t)
	tail := k.log.Recs(7)
	k.truncate(t, 7, 6, 3)
	if k.log.Base() != 7 || k.log.Flushed() != 6 || k.log.Next() != 9 || len(k.log.Recs(0)) != 2 || !slices.EqualFunc(k.log.Recs(0), tail, alike) {
		t.Fatalf("Base %d, Flushed %d, Next %d, %v", k.log.Base(), k.log.Flushed(), k.log.Next(), k.log.Recs(0))
	}
	k.flush(t, 7)
	k.truncate(t, 8, 7, 3)
	k.flush(t, 8)
	k.truncate(t, 9, 8, 3)
	k.open(t)
}

// P16.4: from is from Base to Flushed + 1, whatever the others are.
func TestTruncateFromElsewhere(t *testing.T) {
	for _, k := range []*kept{format(t, 4), busy(t), tailed(t)} {
		for _, from := range []uint64{0, k.base - 1, k.flushed + 2, k.nextLsn() + 1, k.base + 1<<32, 1 << 40, 1 << 63, math.MaxUint64} {
			k.refused(t, "Truncate", api.ErrArg, func() api.Errno { return k.log.Truncate(from, 0, 1) })
			k.refused(t, "Truncate, all wrong", api.ErrArg, func() api.Errno { return k.log.Truncate(from, math.MaxUint64, 0) })
		}
	}
}

// P16.4: master is at most Flushed.
func TestTruncateOfMasters(t *testing.T) {
	for _, make := range []func(t *testing.T) *kept{busy, tailed, func(t *testing.T) *kept { return format(t, 4) }} {
		k := make(t)
		for _, master := range []uint64{k.flushed + 1, k.flushed + 2, k.nextLsn(), k.nextLsn() + 1, 1 << 32, api.MaxLsn, 1 << 63, math.MaxUint64} {
			k.refused(t, "a master that is not flushed", api.ErrArg, func() api.Errno { return k.log.Truncate(k.base, master, 1) })
			k.refused(t, "a master that is not flushed", api.ErrArg, func() api.Errno { return k.log.Truncate(k.flushed+1, master, 1) })
		}
		for master := range k.flushed + 1 {
			for _, from := range []uint64{k.base, k.flushed + 1} {
				k := make(t)
				k.truncate(t, from, master, 1)
				k.open(t)
			}
		}
	}
}

// P16.4: the next transaction's number is from 1 to MaxTxn.
func TestTruncateOfNumbers(t *testing.T) {
	k := busy(t)
	for _, next := range []int{math.MinInt, -1 << 32, -1, 0, api.MaxTxn + 1, 1 << 31, 1 << 32, 1<<32 + 1, math.MaxInt} {
		k.refused(t, "a number that may not be", api.ErrArg, func() api.Errno { return k.log.Truncate(4, 4, next) })
	}
	for _, next := range []int{1, 2, 255, 256, 0x01020304, api.MaxTxn - 1, api.MaxTxn} {
		k.truncate(t, 4, 4, next)
		k.open(t)
	}
}

// P16.4: a note that says no master, and the number 1, is a note all the same; so is one that says less than the one ahead.
func TestTruncateOfNothing(t *testing.T) {
	k := format(t, 4)
	k.truncate(t, 1, 0, 1)
	k.open(t)
	k = busy(t)
	k.truncate(t, 4, 6, 100)
	k.truncate(t, 4, 0, 1)
	k.open(t)
}

// P16.4: a master of more than 32 bits stands whole.
func TestTruncateOfGreatMasters(t *testing.T) {
	const first = 0x0102030405
	k := opens(t, "from a great Lsn on", ringed(t, first, nil), model{base: first, flushed: first - 1, next: 1})
	k.fill(t, 3)
	k.flush(t, first+2)
	k.truncate(t, first+1, first+2, 0x01020304)
	k.open(t)
}

// P16.4: of nil.
func TestTruncateOfNil(t *testing.T) {
	var l *log.Log
	for _, from := range []uint64{0, 1, math.MaxUint64} {
		for _, next := range []int{0, 1} {
			expect(t, "Truncate", l.Truncate(from, 0, next), api.ErrNil)
		}
	}
}

// P16.4: the disk's error at each of its two operations: the log is as it was, and its ring is broken.
func TestTruncateOfADiskThatFails(t *testing.T) {
	for n := range 3 {
		for _, want := range []api.Errno{api.ErrDead, api.ErrIo} {
			k := busy(t)
			if want == api.ErrDead {
				k.disk.Arm(n)
			} else {
				k.disk.Fail(n)
			}
			if n == 2 {
				k.truncate(t, 6, 6, 3)
				continue
			}
			expect(t, "Truncate", k.log.Truncate(6, 6, 3), want)
			staysBroken(t, k)
		}
	}
	k := busy(t)
	k.disk.Arm(0)
	k.disk.Sync()
	k.refused(t, "Truncate on a dead disk, of what may not be", api.ErrArg, func() api.Errno { return k.log.Truncate(6, 7, 3) })
	k.refused(t, "Truncate on a dead disk", api.ErrDead, func() api.Errno { return k.log.Truncate(6, 6, 3) })
	staysBroken(t, k)
}

// P16.4: in the ring's last turn nothing is cut off any more, but appended and flushed.
func TestTruncateInTheLastTurn(t *testing.T) {
	d := ringed(t, 12, nil)
	headAt(t, d, api.MaxTurn-2, 12, 60, nil)
	k := opens(t, "the last turn but one", d, model{base: 12, flushed: 11, next: 1})
	k.fill(t, 3)
	expect(t, "Flush", k.log.Flush(13), api.OK)
	expect(t, "Truncate to the last turn", k.log.Truncate(13, 13, 2), api.OK)
	k.model = k.model.flushedTo(13).truncated(13, 13, 2)
	for _, from := range []uint64{13, 14} {
		k.refused(t, "Truncate in the last turn", api.ErrArg, func() api.Errno { return k.log.Truncate(from, 0, 1) })
	}
	expect(t, "Flush in the last turn", k.log.Flush(14), api.OK)
	k.model = k.model.flushedTo(14)
	tells(t, "in the last turn", k.log, k.model)
	if k.log.Broken() {
		t.Fatal("broken by what was refused")
	}
}
