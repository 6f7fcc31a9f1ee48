package ring_test

import (
	"bytes"
	"fmt"
	"math/rand"
	"testing"

	"bursary/api"
	"bursary/disk"
	"bursary/ring"
)

// choices are all keeps of n parts.
func choices(n int) [][]bool {
	out := make([][]bool, 1<<n)
	for x := range out {
		keep := make([]bool, n)
		for i := range keep {
			keep[i] = x>>i&1 == 1
		}
		out[x] = keep
	}
	return out
}

// losses lets the power go at each Write and Sync that the call does, with every choice of what is kept, and hands on the disk when the power is back; in the end the disk of a call that was not cut, behind a loss of its own.
func losses(t *testing.T, begin func() (d *disk.Disk, do func() api.Errno), use func(d *disk.Disk, whole bool)) {
	t.Helper()
	for n := 0; ; n++ {
		d, do := begin()
		d.Arm(n)
		e := do()
		if e != api.OK {
			expect(t, "where the power goes", e, api.ErrDead)
		}
		for _, keep := range choices(len(d.Pending())) {
			c := d.Copy()
			expect(t, "Crash", c.Crash(keep), api.OK)
			use(c, e == api.OK)
		}
		if e == api.OK {
			return
		}
	}
}

// opened opens the disk, and once more, and asks for what one of both models tells; which of them, it answers. The ring that comes last is answered with what it has.
func opened(t *testing.T, name string, d *disk.Disk, before, after model) (l *laid, went bool) {
	t.Helper()
	for turn := range 2 {
		m, _, there := says(said(d))
		if !there {
			t.Fatalf("%s: no ring", name)
		}
		r, e := ring.Open(d)
		expect(t, name+": Open", e, api.OK)
		l = &laid{d, r, m.opened()}
		is(t, name, d, r, l.model)
		if turn == 0 {
			went = !l.alike(before)
		}
		want := before
		if went {
			want = after
		}
		tells(t, fmt.Sprintf("%s, opened for the %d. time", name, turn+1), r, want)
	}
	return l, went
}

// alike says whether both tell the same.
func (m model) alike(as model) bool {
	return m.first == as.first && bytes.Equal(m.note, as.note) && sameLists(m.entries, as.entries)
}

// again is what losses begins with: a ring made anew, and what is called of it.
func again(make func() *laid, call func(l *laid) api.Errno) func() (*disk.Disk, func() api.Errno) {
	return func() (*disk.Disk, func() api.Errno) {
		l := make()
		return l.disk, func() api.Errno { return call(l) }
	}
}

// goesOn asks what was opened for a life behind its loss: an Open that is cut, and an Append that is cut, once more with every choice of what is kept. Nothing of what was lost comes back, nor goes together with what is laid now.
func goesOn(t *testing.T, l *laid) {
	t.Helper()
	back := func() *laid { return l.copy(t) }
	losses(t, again(back, func(l *laid) api.Errno { _, e := ring.Open(l.disk); return e }), func(d *disk.Disk, _ bool) {
		opened(t, "behind a cut Open", d, l.model, l.model)
	})
	b := mixed(min(52*l.left(), 130), 200)
	if l.left() == 0 {
		return
	}
	after := back().model.appended(b)
	losses(t, again(back, func(l *laid) api.Errno { return l.ring.Append(b) }), func(d *disk.Disk, whole bool) {
		if _, went := opened(t, "behind one more cut Append", d, l.model, after); whole && !went {
			t.Fatal("an Append that was answered OK is lost")
		}
	})
}

// started are rings from which a deed is cut: from several places on, with both heads to be laid next.
func started(t *testing.T, use func(name string, make func() *laid)) {
	t.Helper()
	for _, ahead := range []int{0, 3, 5} {
		for turns := range 2 {
			use(fmt.Sprintf("from place %d, %d turns more", ahead, turns), func() *laid {
				l := busy(t, ahead)
				for range turns {
					l.open(t)
				}
				return l
			})
		}
	}
}

// eitherOf cuts a call at each Write and Sync: behind that there is what there was, or all that the call was to do; both are seen, and what was answered OK is not lost.
func eitherOf(t *testing.T, name string, make func() *laid, call func(l *laid) api.Errno, after model) {
	t.Helper()
	before := make().model
	seen := map[bool]int{}
	losses(t, again(make, call), func(d *disk.Disk, whole bool) {
		l, went := opened(t, name, d, before, after)
		if whole && !went {
			t.Fatalf("%s: what was answered OK is lost", name)
		}
		seen[went]++
		goesOn(t, l)
	})
	if seen[true] < 3 || seen[false] < 2 {
		t.Fatalf("%s: done %d times, not done %d times", name, seen[true], seen[false])
	}
}

// P4.6: behind a loss of power in an Append there is what there was, or an entry more, whole.
func TestPowerLostInAppend(t *testing.T) {
	started(t, func(name string, make func() *laid) {
		for _, n := range []int{0, 52, 53, 104, 156, 200} {
			b := mixed(n, 100)
			eitherOf(t, name+", Append", make, func(l *laid) api.Errno { return l.ring.Append(b) }, make().model.appended(b))
		}
	})
}

// P4.6: behind a loss of power in a Cut there is what there was, or the cut, whole.
func TestPowerLostInCut(t *testing.T) {
	started(t, func(name string, make func() *laid) {
		for n := range 3 {
			note := mixed(3*n+1, 9)
			eitherOf(t, name+", Cut", make, func(l *laid) api.Errno { return l.ring.Cut(n, note) }, make().model.cut(n, note))
		}
	})
}

// P4.6: behind a loss of power in an Open there is what there was.
func TestPowerLostInOpen(t *testing.T) {
	started(t, func(name string, make func() *laid) {
		before := make().model
		losses(t, again(make, func(l *laid) api.Errno { _, e := ring.Open(l.disk); return e }), func(d *disk.Disk, _ bool) {
			l, _ := opened(t, name, d, before, before)
			goesOn(t, l)
		})
	})
}

// P4.6: behind a loss of power in a Format on a disk of noughts there is no ring, or the new one, without entries.
func TestPowerLostInFormat(t *testing.T) {
	empty := formatted(make([]api.Block, 6), 4)
	seen := map[bool]int{}
	losses(t, func() (*disk.Disk, func() api.Errno) {
		d := made(t, 6)
		return d, func() api.Errno { _, e := ring.Format(d, 4); return e }
	}, func(d *disk.Disk, whole bool) {
		if _, _, there := says(said(d)); !there {
			if r, e := ring.Open(d); r != nil || e != api.ErrRing || whole {
				t.Fatalf("Open: %v, error %d, behind all of Format: %t", r, e, whole)
			}
			seen[false]++
			return
		}
		l, _ := opened(t, "Format", d, empty, empty)
		seen[true]++
		goesOn(t, l)
	})
	if seen[true] < 3 || seen[false] < 3 {
		t.Fatal(seen)
	}
}

// P4.6: over an older ring, a Format that is cut leaves no ring, the new one, or some of what was in the older one: no entry that never was.
func TestPowerLostInFormatOverARing(t *testing.T) {
	make := func() *laid {
		l := format(t, 7, 5)
		l.append(t, mixed(60, 1))
		l.append(t, mixed(20, 2))
		l.cut(t, 1, mixed(4, 3))
		l.append(t, mixed(120, 4))
		l.append(t, nil)
		return l
	}
	was := map[uint64][]byte{1: mixed(60, 1), 2: mixed(20, 2), 3: mixed(120, 4), 4: nil}
	for _, size := range []int{4, 5} {
		seen := map[string]int{}
		losses(t, again(make, func(l *laid) api.Errno { _, e := ring.Format(l.disk, size); return e }), func(d *disk.Disk, whole bool) {
			r, e := ring.Open(d)
			switch {
			case e == api.ErrRing && r == nil && !whole:
				seen["none"]++
			case e == api.OK && r.First() == 1 && len(r.All()) == 0 && len(r.Note()) == 0 && r.Left() == size:
				seen["new"]++
			case e == api.OK && !whole:
				for i, b := range r.All() {
					if !bytes.Equal(b, was[r.First()+uint64(i)]) {
						t.Fatalf("entry %d: %v", r.First()+uint64(i), b)
					}
				}
				seen["older"]++
			default:
				t.Fatalf("Open: %v, error %d, behind all of Format: %t", r, e, whole)
			}
		})
		if seen["none"] == 0 || seen["new"] == 0 || seen["older"] == 0 {
			t.Fatal(seen)
		}
	}
}

// P4.6: what was laid in part, and lost, does not go together with what is laid in its stead, of the same number and length, whichever sectors of both are kept.
func TestTwoTornAppendsNeverGoTogether(t *testing.T) {
	one, two := mixed(150, 1), mixed(150, 2)
	for _, first := range choices(3) {
		for _, second := range choices(3) {
			l := busy(t, 2)
			before := l.model
			l.disk.Arm(3)
			expect(t, "Append", l.ring.Append(one), api.ErrDead)
			l.disk.Crash(first)
			l, went := opened(t, "behind the first one", l.disk, before, before.appended(one))
			if went != (first[0] && first[1] && first[2]) {
				t.Fatalf("%v kept: an entry more: %t", first, went)
			}
			if went {
				break
			}
			before = l.model
			l.disk.Arm(3)
			expect(t, "Append", l.ring.Append(two), api.ErrDead)
			l.disk.Crash(second)
			l, went = opened(t, "behind the second one", l.disk, before, before.appended(two))
			if went != (second[0] && second[1] && second[2]) {
				t.Fatalf("%v and %v kept: an entry more: %t", first, second, went)
			}
		}
	}
}

// P4.6: what is settled stays, behind whatever Crash, when nothing is under way.
func TestPowerLostBetween(t *testing.T) {
	l := format(t, 12, 10)
	for i := range 100 {
		switch {
		case i%7 == 3 && len(l.entries) > 0:
			l.cut(t, 1+i%len(l.entries), mixed(i%33, i))
		case pieces(i*13%200) <= l.left():
			l.append(t, mixed(i*13%200, i))
		default:
			l.cut(t, len(l.entries), mixed(2, 2))
		}
		l.disk.Crash(choices(1)[i%2])
		is(t, "behind a Crash", l.disk, l.ring, l.model)
		if i%3 == 0 {
			l.open(t)
		}
	}
}

// P4.6: opened again it is the same, however often.
func TestOpenedAgain(t *testing.T) {
	started(t, func(name string, make func() *laid) {
		l := make()
		want := l.model
		for range 9 {
			l.open(t)
			tells(t, name, l.ring, want)
		}
	})
}

// P4.6: an entry keeps its number, through all Cuts, Opens and losses, and places that were cut off are used again: there is room for ever, for several turns through all places.
func TestRoomForEver(t *testing.T) {
	for _, size := range []int{4, 5, 11, 150} {
		chance := rand.New(rand.NewSource(int64(size)))
		l := format(t, size+2, size)
		numbers := map[uint64][]byte{}
		places := 0
		for i := 0; places < 6*size; i++ {
			b := mixed(chance.Intn(min(52*size, api.MaxEntry)+1), i)
			gone := 0
			for free := l.left(); free < pieces(len(b)); gone++ {
				free += pieces(len(l.entries[gone]))
			}
			l.cut(t, gone, mixed(chance.Intn(33), i))
			numbers[l.next()] = b
			if l.next() != uint64(i)+1 {
				t.Fatalf("the number %d is left out", i+1)
			}
			l.append(t, b)
			places += pieces(len(b))
			if i%2 == 0 {
				l.disk.Crash(nil)
				l.open(t)
			}
			for k, b := range l.ring.All() {
				if number := l.ring.First() + uint64(k); !bytes.Equal(b, numbers[number]) {
					t.Fatalf("the entry %d has changed", number)
				}
			}
		}
	}
}

// P4.6: through many losses, one behind the other, with any choice of what is kept, there is always what there was, or what was under way.
func TestManyLosses(t *testing.T) {
	for seed := range int64(40) {
		chance := rand.New(rand.NewSource(seed))
		size := 4 + chance.Intn(8)
		l := format(t, size+2, size)
		for i := range 60 {
			after := l.model
			var call func() api.Errno
			switch b := mixed(chance.Intn(52*size+1), i); {
			case chance.Intn(2) == 0 && pieces(len(b)) <= l.left():
				after = l.model.appended(b)
				call = func() api.Errno { return l.ring.Append(b) }
			default:
				n, note := chance.Intn(len(l.entries)+1), mixed(chance.Intn(33), i)
				after = l.model.cut(n, note)
				call = func() api.Errno { return l.ring.Cut(n, note) }
			}
			if chance.Intn(3) == 0 {
				expect(t, "what is not cut", call(), api.OK)
				l.model = after
				continue
			}
			l.disk.Arm(chance.Intn(4))
			e := call()
			keep := choices(len(l.disk.Pending()))
			l.disk.Crash(keep[chance.Intn(len(keep))])
			for range chance.Intn(3) {
				l.disk.Arm(chance.Intn(2))
				ring.Open(l.disk)
				l.disk.Crash(choices(1)[chance.Intn(2)])
			}
			next, went := opened(t, "many losses", l.disk, l.model, after)
			if e == api.OK && !went && !l.model.alike(after) {
				t.Fatalf("seed %d, step %d: what was answered OK is lost", seed, i)
			}
			l = next
		}
	}
}
