package log_test

import (
	"bytes"
	"math"
	"slices"
	"testing"

	"bursary/api"
	"bursary/disk"
	"bursary/log"
	"bursary/ring"
)

// openFails asks Open for an error, and for nothing beside it.
func openFails(t *testing.T, name string, d *disk.Disk, want api.Errno) {
	t.Helper()
	if l, e := log.Open(d); l != nil || e != want {
		t.Fatalf("%s: %v, error %d, want %d", name, l, e, want)
	}
}

// ringed is a disk with a ring of those entries, the first one of that number, with that note.
func ringed(t *testing.T, first uint64, note []byte, entries ...[]byte) *disk.Disk {
	t.Helper()
	const size = 60
	d := made(t, size+2)
	r, e := ring.Format(d, size)
	expect(t, "ring.Format", e, api.OK)
	headAt(t, d, 5, first, size, note)
	r, e = ring.Open(d)
	expect(t, "ring.Open", e, api.OK)
	for _, b := range entries {
		expect(t, "ring.Append", r.Append(b), api.OK)
	}
	return d
}

// opens opens a disk, and asks for just that log.
func opens(t *testing.T, name string, d *disk.Disk, m model) *kept {
	t.Helper()
	l, e := log.Open(d)
	expect(t, name+": Open", e, api.OK)
	is(t, name, d, l, m)
	return &kept{d, l, m}
}

// P16.1: each error of ring.Open.
func TestOpenOfNoRing(t *testing.T) {
	openFails(t, "no disk", nil, api.ErrNil)
	for _, n := range []int{2, 6, 452, api.MaxSectors} {
		openFails(t, "noughts", made(t, n), api.ErrRing)
		openFails(t, "a dead disk", dead(t, n), api.ErrDead)
	}
	openFails(t, "a disk of a sector", made(t, 1), api.ErrArg)
	d := ringed(t, 1, nil)
	headAt(t, d, api.MaxTurn, 1, 60, nil)
	openFails(t, "the last turn", d, api.ErrRing)
	headAt(t, d, 1, 1, 61, nil)
	openFails(t, "a disk too small", d, api.ErrRing)
}

// P16.1: the disk's error at each of the operations that an Open has.
func TestOpenOfADiskThatFails(t *testing.T) {
	k := busy(t)
	d := k.disk.Copy()
	ops := d.Ops()
	if _, e := log.Open(d); e != api.OK {
		t.Fatal(e)
	}
	all := d.Ops() - ops
	if all < 5 {
		t.Fatalf("%d operations", all)
	}
	for n := range all {
		d := k.disk.Copy()
		d.Fail(n)
		openFails(t, "set to fail", d, api.ErrIo)
		opens(t, "behind that", d, k.model.opened())
	}
	for n := range 2 {
		d := k.disk.Copy()
		d.Arm(n)
		openFails(t, "armed", d, api.ErrDead)
		openFails(t, "dead", d, api.ErrDead)
		d.Crash(nil)
		opens(t, "behind that", d, k.model.opened())
	}
	d = k.disk.Copy()
	d.Arm(2)
	if _, e := log.Open(d); e != api.OK {
		t.Fatalf("armed with as many as there are: error %d", e)
	}
}

// P16.1: a ring whose entries are the records of their numbers, one behind the other, from whatever number on.
func TestOpen(t *testing.T) {
	for _, first := range []uint64{1, 2, 3, 100, 1<<32 - 1, 1 << 32, api.MaxLsn - 9} {
		for n := range 9 {
			m := model{base: first, flushed: first - 1, next: 1}
			var entries [][]byte
			for i := range n {
				r := some(m.nextLsn(), i*5%9)
				m = m.appended(r)
				m.flushed++
				entries = append(entries, bytesOf(t, r))
			}
			k := opens(t, "a log", ringed(t, first, nil, entries...), m)
			k.open(t)
			k.fill(t, 1)
			tells(t, "a record more", k.log, k.model)
			k.open(t)
		}
	}
}

// P16.1: an entry that is no record's bytes, and one whose record has another Lsn than its number: first, between and last.
func TestOpenOfOtherEntries(t *testing.T) {
	good := func(lsn uint64) []byte { return bytesOf(t, head(api.RecCommit, lsn, 7, 1)) }
	whole := good(12)
	wrong := map[string][]byte{
		"no bytes":              {},
		"a byte":                {1},
		"noughts":               make([]byte, 21),
		"a byte fewer":          whole[:20],
		"a byte more":           append(slices.Clone(whole), 0),
		"another Kind":          append([]byte{10}, whole[1:]...),
		"the Kind 0":            append([]byte{0}, whole[1:]...),
		"of nobody":             slices.Concat(whole[:9], make([]byte, 4), whole[13:]),
		"Prev as Lsn":           append(slices.Clone(whole[:20]), 12),
		"the record ahead":      good(11),
		"the record behind":     good(13),
		"one of far behind":     good(12 + 1<<32),
		"one of far ahead":      bytesOf(t, begin(1)),
		"the last one of all":   good(api.MaxLsn),
		"of the Lsn 0":          slices.Concat(whole[:1], make([]byte, 8), whole[9:]),
		"of the Lsn 12 + 2^40":  slices.Concat(whole[:1], high(12+1<<40, 8), whole[9:]),
		"many bytes of nothing": bytes.Repeat([]byte{0xEE}, 200),
	}
	opens(t, "all are good", ringed(t, 12, nil, whole, good(13)), model{base: 12, flushed: 13, next: 1, records: []api.Rec{head(api.RecCommit, 12, 7, 1), head(api.RecCommit, 13, 7, 1)}})
	for name, b := range wrong {
		openFails(t, name+", alone", ringed(t, 12, nil, b), api.ErrLog)
		openFails(t, name+", first", ringed(t, 12, nil, b, good(13)), api.ErrLog)
		openFails(t, name+", last", ringed(t, 11, nil, good(11), b), api.ErrLog)
		openFails(t, name+", between", ringed(t, 11, nil, good(11), b, good(13)), api.ErrLog)
		openFails(t, name+", with a note", ringed(t, 12, noteOf(3, 4), b), api.ErrLog)
	}
	openFails(t, "twice the same", ringed(t, 12, nil, whole, whole), api.ErrLog)
	openFails(t, "one left out", ringed(t, 12, nil, whole, good(14)), api.ErrLog)
	openFails(t, "all moved by one", ringed(t, 11, nil, whole, good(13)), api.ErrLog)
}

// P16.1: each byte of an entry turned, one by one: it is another record of that Lsn, or no log.
func TestOpenOfTurnedBytes(t *testing.T) {
	b := bytesOf(t, change(12, 1))
	for i := range b {
		turned := slices.Clone(b)
		turned[i] ^= 0x40
		l, e := log.Open(ringed(t, 12, nil, turned))
		if e == api.ErrLog && l == nil {
			continue
		}
		r, why := l.Rec(12)
		if e != api.OK || why != api.OK || r.Lsn != 12 || !bytes.Equal(bytesOf(t, r), turned) {
			t.Fatalf("byte %d: %v, errors %d, %d", i, r, e, why)
		}
	}
}

// P16.1: notes of no bytes, and of 12; of no other number of bytes.
func TestOpenOfNotes(t *testing.T) {
	entry := bytesOf(t, begin(12))
	m := model{base: 12, flushed: 12, next: 1, records: []api.Rec{begin(12)}}
	bare := model{base: 12, flushed: 11, next: 1}
	opens(t, "no note", ringed(t, 12, nil, entry), m)
	opens(t, "no note, no entries", ringed(t, 12, nil), bare)
	note := slices.Concat(noteOf(3, 5), make([]byte, 20))
	for n := range api.RingNote + 1 {
		if n == 0 || n == 12 {
			continue
		}
		openFails(t, "a note of other bytes", ringed(t, 12, note[:n], entry), api.ErrLog)
		openFails(t, "a note of other bytes, no entries", ringed(t, 12, note[:n]), api.ErrLog)
	}
	m.noted, m.master, m.next = true, 3, 5
	bare.noted, bare.master, bare.next = true, 3, 5
	opens(t, "a note", ringed(t, 12, note[:12], entry), m)
	opens(t, "a note, no entries", ringed(t, 12, note[:12]), bare)
}

// P16.1: a Master from 0 on and below the next number, a NextTxn from 1 to MaxTxn.
func TestOpenOfNumbersInNotes(t *testing.T) {
	const first = 1<<32 + 12
	for _, n := range []int{0, 1, 3} {
		m := model{base: first, flushed: first - 1, noted: true}
		var entries [][]byte
		for range n {
			r := head(api.RecEnd, m.nextLsn(), 7, 1)
			m = m.appended(r)
			m.flushed++
			entries = append(entries, bytesOf(t, r))
		}
		end := m.nextLsn()
		for _, next := range []int{0, 1, 2, 255, 256, 0x01020304, api.MaxTxn - 1, api.MaxTxn, api.MaxTxn + 1, 1 << 31, 1<<32 - 1} {
			for _, master := range []uint64{0, 1, 12, first - 1, first, end - 1, end, end + 1, 1 << 40, 1 << 63, math.MaxUint64} {
				d := ringed(t, first, noteOf(master, next), entries...)
				if master >= end || next < 1 || next > api.MaxTxn {
					openFails(t, "a note that may not be", d, api.ErrLog)
					continue
				}
				m.master, m.next = master, next
				opens(t, "a note that may be", d, m)
			}
		}
	}
}

// P16.1: a Truncate's note of a master that is cut off, and behind all entries that there are.
func TestOpenOfAMasterThatIsCutOff(t *testing.T) {
	k := format(t, 20)
	k.fill(t, 5)
	k.flush(t, 5)
	k.truncate(t, 4, 2, 3)
	k.open(t)
	k.truncate(t, 6, 5, 4)
	k.open(t)
}

// P16.1: the greatest number of an entry that a disk can say, 2^40 less 1, with a record and without; a greater one is none of a ring.
func TestOpenOfTheLastLsn(t *testing.T) {
	const last = api.MaxLsn - 1
	k := opens(t, "no entries", ringed(t, last, noteOf(last-1, 3)), model{base: last, flushed: last - 1, master: last - 1, next: 3, noted: true})
	k.append(t, begin(last), 0)
	k.refused(t, "MaxLsn", api.ErrLogFull, func() api.Errno { return k.log.Append(begin(api.MaxLsn), 0) })
	k.flush(t, last)
	k.open(t)
	k.refused(t, "MaxLsn", api.ErrLogFull, func() api.Errno { return k.log.Append(begin(api.MaxLsn), 0) })
	if k.log.Next() != api.MaxLsn {
		t.Fatalf("Next %d", k.log.Next())
	}
	openFails(t, "the record behind it", ringed(t, last, nil, bytesOf(t, begin(api.MaxLsn))), api.ErrLog)
	d := made(t, 62)
	headAt(t, d, 1, 0, 60, nil) // which is all that five bytes have of MaxLsn
	openFails(t, "MaxLsn", d, api.ErrRing)
}

// P16.1: what is no log stays so, and as it is, however often it is opened.
func TestOpenAgainOfNoLog(t *testing.T) {
	d := ringed(t, 12, noteOf(3, 5), bytesOf(t, begin(12)), []byte{1, 2, 3})
	for range 5 {
		openFails(t, "no log", d, api.ErrLog)
	}
	r, e := ring.Open(d)
	expect(t, "ring.Open", e, api.OK)
	if r.First() != 12 || len(r.All()) != 2 || !bytes.Equal(r.Note(), noteOf(3, 5)) {
		t.Fatalf("First %d, %v, % X", r.First(), r.All(), r.Note())
	}
}

// P16.1: more sectors than MaxLog may be in a ring: that is a log, which takes nothing more till it is cut.
func TestOpenOfMoreThanMaxLog(t *testing.T) {
	const size = 500
	d := made(t, size+2)
	r, e := ring.Format(d, size)
	expect(t, "ring.Format", e, api.OK)
	m := empty()
	for m.used(t) < size-100 {
		x := change(m.nextLsn()+1, 16)
		x.Lsn, x.Prev = m.nextLsn(), 1
		if m.nextLsn() == 1 {
			x = begin(1)
		}
		expect(t, "ring.Append", r.Append(bytesOf(t, x)), api.OK)
		m = m.appended(x)
		m.flushed++
	}
	k := opens(t, "more than MaxLog", d, m)
	if k.log.Used() <= api.MaxLog {
		t.Fatalf("%d are used", k.log.Used())
	}
	k.refused(t, "Append", api.ErrLogFull, func() api.Errno { return k.log.Append(begin(k.nextLsn()), 0) })
	k.truncate(t, 3, 0, 1)
	k.append(t, begin(k.nextLsn()), 0)
	k.flush(t, k.nextLsn()-1)
}
