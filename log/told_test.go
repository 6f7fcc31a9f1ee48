package log_test

import (
	"math"
	"reflect"
	"slices"
	"testing"

	"bursary/api"
	"bursary/log"
)

// P16.5, R4: of nil.
func TestNilLog(t *testing.T) {
	var l *log.Log
	for _, lsn := range []uint64{0, 1, math.MaxUint64} {
		if r, e := l.Rec(lsn); e != api.ErrNil || !reflect.DeepEqual(r, api.Rec{}) {
			t.Fatalf("Rec(%d): %v, error %d", lsn, r, e)
		}
		if all := l.Recs(lsn); len(all) != 0 {
			t.Fatalf("Recs(%d): %v", lsn, all)
		}
	}
	if l.Base() != 0 || l.Next() != 0 || l.Flushed() != 0 || l.Master() != 0 || l.NextTxn() != 0 || l.Used() != 0 || l.Broken() {
		t.Fatal("nil tells something")
	}
}

// P16.5: Rec of each Lsn, and Recs from each on; of those that there are, flushed or not, and of none else.
func TestRecs(t *testing.T) {
	k := busy(t)
	for lsn := range uint64(12) {
		from := min(max(lsn, k.base), k.nextLsn())
		if got := k.log.Recs(lsn); !slices.EqualFunc(got, k.records[from-k.base:], alike) {
			t.Fatalf("Recs(%d): %v", lsn, got)
		}
		if lsn != from || lsn == k.nextLsn() {
			lacks(t, "none", k.log, lsn)
			continue
		}
		if r, e := k.log.Rec(lsn); e != api.OK || r.Lsn != lsn || !alike(r, k.records[lsn-k.base]) {
			t.Fatalf("Rec(%d): %v, error %d", lsn, r, e)
		}
	}
	for _, lsn := range []uint64{k.base + 1<<32, k.base + 1<<63, math.MaxUint64 - 1, math.MaxUint64} {
		lacks(t, "far behind", k.log, lsn)
		if got := k.log.Recs(lsn); len(got) != 0 {
			t.Fatalf("Recs(%d): %v", lsn, got)
		}
	}
	k.truncate(t, 7, 0, 1)
	k.open(t)
	for lsn := range uint64(12) {
		lacks(t, "an empty log", k.log, lsn)
		if got := k.log.Recs(lsn); len(got) != 0 {
			t.Fatalf("Recs(%d): %v", lsn, got)
		}
	}
}

// P16.5: what is told goes along with what is done.
func TestTold(t *testing.T) {
	k := format(t, 450)
	told := func(base, next, flushed, master uint64, txn, used int) {
		t.Helper()
		l := k.log
		if l.Base() != base || l.Next() != next || l.Flushed() != flushed || l.Master() != master || l.NextTxn() != txn || l.Used() != used || l.Broken() {
			t.Fatalf("Base %d, Next %d, Flushed %d, Master %d, NextTxn %d, Used %d, broken: %t", l.Base(), l.Next(), l.Flushed(), l.Master(), l.NextTxn(), l.Used(), l.Broken())
		}
	}
	told(1, 1, 0, 0, 1, 0)
	k.append(t, begin(1), 0) // 21 bytes
	told(1, 2, 0, 0, 1, 1)
	k.append(t, change(2, 1), 0) // 22 bytes, and 1 and twice 82 of its page: 187
	told(1, 3, 0, 0, 1, 5)
	k.append(t, change(3, 16), 0) // 22 bytes, and 16 times 165: 2662
	told(1, 4, 0, 0, 1, 57)
	k.append(t, ckpt(4, 8, 64), 0) // 21 bytes, 4, 1 and 8 times 29, 1 and 64 times 9: 835
	told(1, 5, 0, 0, 1, 74)
	k.flush(t, 2)
	told(1, 5, 2, 0, 1, 74)
	k.truncate(t, 2, 1, 5)
	told(2, 5, 2, 1, 5, 73)
	k.flush(t, 4)
	told(2, 5, 4, 1, 5, 73)
	k.append(t, begin(5), 0)
	told(2, 6, 4, 1, 5, 74)
	k.truncate(t, 4, 4, 9)
	told(4, 6, 4, 4, 9, 18)
	k.open(t)
	told(4, 5, 4, 4, 9, 17)
	k.truncate(t, 5, 4, 9)
	told(5, 5, 4, 4, 9, 0)
	k.open(t)
	told(5, 5, 4, 4, 9, 0)
}

// P16.5: Used is the sum of what all records cost, flushed or not: sectors of 52 bytes each.
func TestUsed(t *testing.T) {
	k := format(t, 450)
	k.append(t, begin(1), 0)
	want := 1
	for i := range 16 {
		pages := 1 + i%5
		k.append(t, change(k.nextLsn(), pages), 0)
		want += (22 + 165*pages + 51) / 52
		if k.log.Used() != want {
			t.Fatalf("Used %d, want %d", k.log.Used(), want)
		}
	}
	k.flush(t, 9)
	k.truncate(t, 4, 0, 1)
	if want -= 1 + 4 + 7; k.log.Used() != want { // those of no page, of one, and of two
		t.Fatalf("Used %d, want %d", k.log.Used(), want)
	}
	k.open(t)
}

// P16.5: Broken is the ring's: by what the disk does, not by what is refused.
func TestBroken(t *testing.T) {
	k := busy(t)
	k.refused(t, "Flush", api.ErrArg, func() api.Errno { return k.log.Flush(9) })
	k.refused(t, "Truncate", api.ErrArg, func() api.Errno { return k.log.Truncate(8, 0, 1) })
	k.refused(t, "Append", api.ErrArg, func() api.Errno { return k.log.Append(begin(1), 0) })
	if k.log.Broken() {
		t.Fatal("broken by what was refused")
	}
	k.disk.Fail(1)
	expect(t, "Flush", k.log.Flush(7), api.ErrIo)
	if !k.log.Broken() {
		t.Fatal("not broken")
	}
	k.disk.Crash(nil)
	k.open(t)
	if k.log.Broken() {
		t.Fatal("broken, though it was opened again")
	}
}

// P16.5: nothing that is told does anything to the disk, be it dead.
func TestToldDoesNothing(t *testing.T) {
	k := busy(t)
	k.refused(t, "what is told", api.OK, func() api.Errno { return api.OK })
	k.disk.Arm(0)
	k.disk.Sync()
	k.refused(t, "what is told, on a dead disk", api.OK, func() api.Errno { tells(t, "dead", k.log, k.model); return api.OK })
}
