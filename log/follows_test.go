package log_test

import (
	"bytes"
	"math/rand"
	"slices"
	"testing"

	"bursary/api"
	"bursary/disk"
	"bursary/log"
	"bursary/record"
	"bursary/ring"
)

// choices are all keeps of n parts, if these are eight at most; else some of them, that of none and that of all among these.
func choices(n int, chance *rand.Rand) [][]bool {
	if n <= 8 {
		out := make([][]bool, 1<<n)
		for x := range out {
			for i := range n {
				out[x] = append(out[x], x>>i&1 == 1)
			}
		}
		return out
	}
	out := [][]bool{make([]bool, n), slices.Repeat([]bool{true}, n)}
	for range 30 {
		keep := make([]bool, n)
		for i := range keep {
			keep[i] = chance.Intn(3) > 0
		}
		out = append(out, keep)
	}
	return out
}

// losses lets the power go at each Write and Sync that the call does, with each choice of what is kept, and hands on the disk when the power is back; in the end that of a call which was not cut.
func losses(t *testing.T, make func(t *testing.T) *kept, call func(l *log.Log) api.Errno, use func(d *disk.Disk, flushed uint64, whole bool)) {
	t.Helper()
	for n := 0; ; n++ {
		k := make(t)
		k.disk.Arm(n)
		e := call(k.log)
		if e != api.OK {
			expect(t, "where the power goes", e, api.ErrDead)
		}
		if n := len(k.disk.Pending()); n > 8 {
			t.Fatalf("%d are pending: not each choice is tried", n)
		}
		for _, keep := range choices(len(k.disk.Pending()), nil) {
			c := k.disk.Copy()
			expect(t, "Crash", c.Crash(keep), api.OK)
			use(c, k.log.Flushed(), e == api.OK)
		}
		if e == api.OK {
			return
		}
	}
}

// P16.6: behind a crash at each Write of a Flush there are the records that were flushed, and perhaps more, in order, of those that were being flushed; what was told as flushed is there.
func TestPowerLostInFlush(t *testing.T) {
	for _, make := range []func(t *testing.T) *kept{tailed, busy} {
		seen := map[uint64]int{}
		k := make(t)
		before := k.model
		losses(t, make, func(l *log.Log) api.Errno { return l.Flush(k.nextLsn() - 1) }, func(d *disk.Disk, flushed uint64, whole bool) {
			l, e := log.Open(d)
			expect(t, "Open", e, api.OK)
			m := before.flushedTo(l.Flushed()).opened()
			is(t, "behind a crash", d, l, m)
			if l.Flushed() < flushed || l.Flushed() > flushed+1 || whole && l.Flushed() != before.nextLsn()-1 {
				t.Fatalf("Flushed %d; it was %d, all of it: %t", l.Flushed(), flushed, whole)
			}
			seen[l.Flushed()]++
			after := &kept{d, l, m}
			after.open(t)
			goesOn(t, after)
		})
		for lsn := before.flushed; lsn < before.nextLsn(); lsn++ {
			if seen[lsn] == 0 {
				t.Fatalf("no crash leaves %d flushed: %v", lsn, seen)
			}
		}
	}
}

// goesOn asks a log that was opened for a life behind that: other records of the Lsns that were lost.
func goesOn(t *testing.T, k *kept) {
	t.Helper()
	for i := range 3 {
		k.append(t, some(k.nextLsn(), 4+i), 0)
	}
	k.flush(t, k.nextLsn()-1)
	k.truncate(t, k.base+1, k.flushed, 77)
	k.open(t)
}

// P16.6: behind a crash at each Write of a Truncate there is the log as it was ahead of it, without its tail, or as it would have been.
func TestPowerLostInTruncate(t *testing.T) {
	for from := uint64(4); from <= 7; from++ {
		before := busy(t).model
		after := before.truncated(from, 6, 1234567)
		seen := map[bool]int{}
		losses(t, busy, func(l *log.Log) api.Errno { return l.Truncate(from, 6, 1234567) }, func(d *disk.Disk, _ uint64, whole bool) {
			l, e := log.Open(d)
			expect(t, "Open", e, api.OK)
			m := before.opened()
			went := l.NextTxn() == after.next
			if went {
				m = after.opened()
			}
			is(t, "behind a crash", d, l, m)
			if whole && !went {
				t.Fatal("what was answered OK is lost")
			}
			seen[went]++
			k := &kept{d, l, m}
			k.open(t)
			goesOn(t, k)
		})
		if seen[true] < 2 || seen[false] < 2 {
			t.Fatalf("from %d: done %d times, not done %d times", from, seen[true], seen[false])
		}
	}
}

// P16.6: behind a crash in an Open there is the same log.
func TestPowerLostInOpen(t *testing.T) {
	before := busy(t).model.opened()
	k := busy(t)
	for n := range 3 {
		d := k.disk.Copy()
		d.Arm(n)
		log.Open(d)
		for _, keep := range choices(len(d.Pending()), nil) {
			c := d.Copy()
			c.Crash(keep)
			opens(t, "behind a crash", c, before)
		}
	}
}

// P16.6: nothing that was flushed, and told so, is lost by a Crash between, and nothing of the tail is there.
func TestPowerLostBetween(t *testing.T) {
	k := format(t, api.LogArea)
	for range 9 {
		k.fill(t, 2)
		k.flush(t, k.nextLsn()-2)
		k.disk.Crash(nil)
		tells(t, "a Crash changes nothing in memory", k.log, k.model)
		k.truncate(t, k.base+1, k.flushed, 3)
		k.disk.Crash([]bool{true, true})
		k.open(t)
	}
}

// roomFor cuts off as much of a log as it must, for a record to have room; of a record that is cut off, the tail is flushed first.
func roomFor(t *testing.T, k *kept, r api.Rec, chance *rand.Rand) {
	t.Helper()
	for k.used(t)+cost(t, r) > api.MaxLog {
		from := k.base + 1 + uint64(chance.Intn(3))
		if from > k.flushed+1 {
			quietly(t, k, k.nextLsn()-1)
			from = min(from, k.flushed+1)
		}
		expect(t, "Truncate", k.log.Truncate(from, k.flushed, 1+chance.Intn(99)), api.OK)
		k.model = k.model.truncated(from, k.flushed, k.log.NextTxn())
	}
}

// quietly flushes, which there must be room for.
func quietly(t *testing.T, k *kept, to uint64) {
	t.Helper()
	if e := k.log.Flush(to); e != api.OK {
		t.Fatalf("Flush(%d): error %d, with %d used", to, e, k.log.Used())
	}
	k.model = k.model.flushedTo(to)
}

// P16.6: as long as what is used is at most MaxLog, a ring of LogArea places has room for each Flush: through several turns of all places, with records of all lengths, and behind Opens.
func TestRoomForEachFlush(t *testing.T) {
	for seed := range int64(3) {
		chance := rand.New(rand.NewSource(seed))
		k := format(t, api.LogArea)
		places := 0
		for i := 0; places < 5*api.LogArea; i++ {
			r := some(k.nextLsn(), chance.Intn(500))
			places += cost(t, r)
			roomFor(t, k, r, chance)
			k.append(t, r, api.MaxLog-k.log.Used()-cost(t, r))
			if k.log.Used() > api.MaxLog {
				t.Fatalf("%d are used", k.log.Used())
			}
			if chance.Intn(4) == 0 {
				quietly(t, k, k.base-1+uint64(chance.Intn(len(k.records)+1)))
			}
			if chance.Intn(25) == 0 {
				k.open(t)
			}
		}
		is(t, "at the end", k.disk, k.log, k.model)
	}
}

// P16.6: a log that is just full is flushed whole, wherever in its ring it begins.
func TestRoomForAFullLog(t *testing.T) {
	for _, ahead := range []int{0, 1, 49, 50, 51, 200, 400, 449} {
		k := format(t, api.LogArea)
		for k.used(t) < ahead/2 {
			k.append(t, begin(k.nextLsn()), 0)
		}
		quietly(t, k, k.nextLsn()-1)
		expect(t, "Truncate", k.log.Truncate(k.nextLsn(), 0, 1), api.OK)
		k.model = k.model.truncated(k.nextLsn(), 0, 1)
		for k.used(t) < ahead-ahead/2 {
			k.append(t, begin(k.nextLsn()), 0)
		}
		quietly(t, k, k.nextLsn()-1)
		expect(t, "Truncate", k.log.Truncate(k.nextLsn(), 0, 1), api.OK)
		k.model = k.model.truncated(k.nextLsn(), 0, 1)
		k.append(t, begin(k.nextLsn()), 0)
		for k.used(t) < api.MaxLog {
			r := change(k.nextLsn(), 1+ahead%16)
			if k.log.Used()+cost(t, r) > api.MaxLog {
				r = begin(k.nextLsn())
			}
			k.append(t, r, 0)
		}
		quietly(t, k, k.nextLsn()-1)
		is(t, "a full log", k.disk, k.log, k.model)
		k.open(t)
	}
}

// P16.6: a Truncate writes one sector of a head, and syncs: no record is laid anew.
func TestTruncateLaysNothingAnew(t *testing.T) {
	for from := uint64(4); from <= 7; from++ {
		k := busy(t)
		before, ops := said(k.disk), k.disk.Ops()
		k.disk.Arm(1) // a Write is done, and then the power goes at the Sync
		expect(t, "Truncate", k.log.Truncate(from, 6, 5), api.ErrDead)
		if got := k.disk.Ops() - ops; got != 2 {
			t.Fatalf("%d operations", got)
		}
		if p := k.disk.Pending(); len(p) != 1 || p[0] >= api.RingHeads {
			t.Fatalf("%v are pending", p)
		}
		if !slices.Equal(said(k.disk)[api.RingHeads:], before[api.RingHeads:]) {
			t.Fatal("a place has changed")
		}
	}
}

// P16.6: through many losses, one behind the other, there is always what there was, and perhaps one more of what was being flushed, or the cut that was under way.
func TestManyLosses(t *testing.T) {
	seen := map[string]int{}
	for seed := range int64(20) {
		chance := rand.New(rand.NewSource(seed))
		k := format(t, api.LogArea)
		for i := range 60 {
			for range chance.Intn(4) {
				r := some(k.nextLsn(), chance.Intn(500))
				roomFor(t, k, r, chance)
				k.append(t, r, 0)
			}
			k.disk.Arm(chance.Intn(40) * chance.Intn(2))
			e, before, after, name := underWay(k, chance, 100+i)
			if e == api.OK && chance.Intn(2) == 0 {
				k.disk.Arm(-1)
				k.model = after
				continue
			}
			all := choices(len(k.disk.Pending()), chance)
			k.disk.Crash(all[chance.Intn(len(all))])
			l, why := log.Open(k.disk)
			expect(t, "Open", why, api.OK)
			want := after.opened()
			if e != api.OK && l.Flushed() == before.flushed && l.NextTxn() == before.next {
				want = before.opened()
				name += ", lost"
			}
			seen[name]++
			k = &kept{k.disk, l, want}
			is(t, "behind a loss", k.disk, k.log, k.model)
		}
	}
	if seen["Flush"] == 0 || seen["Flush, lost"] == 0 || seen["Truncate"] == 0 || seen["Truncate, lost"] == 0 {
		t.Fatal(seen)
	}
}

// underWay flushes or truncates, and answers what there is if the last thing that was under way then was lost, and if it was not.
func underWay(k *kept, chance *rand.Rand, next int) (e api.Errno, before, after model, name string) {
	if chance.Intn(2) == 0 {
		from := k.base + uint64(chance.Intn(int(k.flushed+2-k.base)))
		e = k.log.Truncate(from, k.flushed, next)
		return e, k.model, k.model.truncated(from, k.flushed, next), "Truncate"
	}
	e = k.log.Flush(k.nextLsn() - 1)
	before = k.model.flushedTo(k.log.Flushed())
	after = before
	if e != api.OK {
		after = before.flushedTo(before.flushed + 1)
	}
	return e, before, after, "Flush"
}

// P16.6, P16.1: what the ring has is what the chapter says, byte by byte, and a log of another's entries is the same.
func TestRingOfALog(t *testing.T) {
	k := busy(t)
	k.flush(t, 8)
	r, e := ring.Open(k.disk.Copy())
	expect(t, "ring.Open", e, api.OK)
	if r.First() != 4 || !bytes.Equal(r.Note(), []byte{0, 0, 0, 0, 0, 0, 0, 5, 0, 0, 0, 9}) {
		t.Fatalf("First %d, note % X", r.First(), r.Note())
	}
	for i, b := range r.All() {
		x, e := record.Decode(b)
		if e != api.OK || x.Lsn != 4+uint64(i) || !alike(x, k.records[i]) {
			t.Fatalf("%v, error %d", x, e)
		}
	}
	opens(t, "of the same entries", ringed(t, 4, r.Note(), r.All()...), k.model)
}
