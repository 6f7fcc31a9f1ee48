package ring_test

import (
	"bytes"
	"math"
	"testing"

	"bursary/api"
	"bursary/ring"
)

// P4.5, R4: of nil.
func TestNilRing(t *testing.T) {
	var r *ring.Ring
	for _, b := range [][]byte{nil, {1}, make([]byte, api.MaxEntry), make([]byte, api.MaxEntry+1)} {
		expect(t, "Append", r.Append(b), api.ErrNil)
	}
	for _, n := range []int{math.MinInt, -1, 0, 1, math.MaxInt} {
		expect(t, "Cut", r.Cut(n, nil), api.ErrNil)
		expect(t, "Cut", r.Cut(n, make([]byte, 33)), api.ErrNil)
	}
	if r.First() != 0 || len(r.All()) != 0 || len(r.Note()) != 0 || r.Left() != 0 || r.Broken() {
		t.Errorf("of nil: First %d, %v, %v, %d left, broken: %t", r.First(), r.All(), r.Note(), r.Left(), r.Broken())
	}
}

// P4.5: what is told goes along with what is done.
func TestTold(t *testing.T) {
	l := format(t, 12, 10)
	told := func(first uint64, left int, note []byte, entries ...int) {
		t.Helper()
		r := l.ring
		if r.First() != first || r.Left() != left || !bytes.Equal(r.Note(), note) || len(r.All()) != len(entries) || r.Broken() {
			t.Fatalf("First %d, %d left, %v, %v, broken: %t", r.First(), r.Left(), r.Note(), r.All(), r.Broken())
		}
		for i, b := range r.All() {
			if len(b) != entries[i] {
				t.Fatalf("%v, want lengths %v", r.All(), entries)
			}
		}
	}
	told(1, 10, nil)
	l.append(t, mixed(52, 1))
	told(1, 9, nil, 52)
	l.append(t, mixed(53, 2))
	told(1, 7, nil, 52, 53)
	l.append(t, nil)
	told(1, 6, nil, 52, 53, 0)
	l.cut(t, 2, []byte{1, 2, 3})
	told(3, 9, []byte{1, 2, 3}, 0)
	l.open(t)
	told(3, 9, []byte{1, 2, 3}, 0)
	l.cut(t, 1, nil)
	told(4, 10, nil)
	l.append(t, mixed(520, 3))
	told(4, 0, nil, 520)
	l.open(t)
	told(4, 0, nil, 520)
}

// P4.5, R3: what is told is in memory of its own: each time anew, and each entry for itself.
func TestToldIsNewMemory(t *testing.T) {
	l := several(t, 3)
	l.cut(t, 1, mixed(20, 1))
	for range 2 {
		for _, b := range l.ring.All() {
			for i := range b {
				b[i]++
			}
			_ = append(b, 1, 2, 3)
		}
		all := l.ring.All()
		for i := range all {
			all[i] = append(all[i][:0:cap(all[i])], mixed(cap(all[i]), 9)...)
		}
		_ = append(all, []byte{1})
		note := l.ring.Note()
		for i := range note {
			note[i]++
		}
		_ = append(note, 1, 2, 3)
		is(t, "what was told is written over", l.disk, l.ring, l.model)
		l.open(t)
	}

	all := l.ring.All()
	want := make([][]byte, len(all))
	for i := range all {
		want[i] = bytes.Clone(all[i])
		_ = append(all[i], 0xEE, 0xEE, 0xEE)
	}
	if !sameLists(all, want) {
		t.Fatal("two entries share memory")
	}
	note := l.ring.Note()
	l.cut(t, 2, mixed(20, 2))
	l.append(t, mixed(300, 3))
	if !sameLists(all, want) || !bytes.Equal(note, mixed(20, 1)) {
		t.Fatal("what was told has changed")
	}
}

// P4.5: nothing that is told does anything to the disk, be it dead.
func TestToldDoesNothing(t *testing.T) {
	l := several(t, 3)
	ops := l.disk.Ops()
	tell := func() {
		l.ring.First()
		l.ring.All()
		l.ring.Note()
		l.ring.Left()
		l.ring.Broken()
		if l.disk.Ops() != ops {
			t.Fatalf("%d operations", l.disk.Ops()-ops)
		}
	}
	tell()
	l.disk.Arm(0)
	l.disk.Sync()
	ops++
	tell()
	tells(t, "on a dead disk", l.ring, l.model)
}

// R5: rings on disks of their own have nothing to do with one another.
func TestTwoRings(t *testing.T) {
	a, b := format(t, 8, 6), format(t, 9, 7)
	for i := range 30 {
		a.append(t, mixed(i, i))
		is(t, "the other one", b.disk, b.ring, b.model)
		b.append(t, mixed(2*i, i+1))
		is(t, "the other one", a.disk, a.ring, a.model)
		a.cut(t, 1, mixed(i, 1))
		b.cut(t, 1, mixed(i, 2))
		if i%5 == 0 {
			a.open(t)
		}
		is(t, "the other one", b.disk, b.ring, b.model)
	}
}

// R5: the same calls on the same sectors are answered the same.
func TestSameAgain(t *testing.T) {
	l := several(t, 3)
	a, b := l.copy(t), l.copy(t)
	for i := range 20 {
		for _, c := range []*laid{a, b} {
			if i%3 == 2 {
				c.cut(t, len(c.entries), mixed(i, i))
			}
			c.ring.Append(mixed(30*i%200, i))
		}
		sameSectors(t, "the same again", said(a.disk), said(b.disk))
		m, _, _ := says(said(b.disk))
		a.model, b.model = m, m
		is(t, "one", a.disk, a.ring, m)
		is(t, "the other one", b.disk, b.ring, m)
	}
}
