package ring_test

import (
	"bytes"
	"slices"
	"testing"

	"bursary/api"
	"bursary/disk"
	"bursary/ring"
)

// expect holds an error against the one that is asked for.
func expect(t *testing.T, name string, got, want api.Errno) {
	t.Helper()
	if got != want {
		t.Fatalf("%s: error %d, want %d", name, got, want)
	}
}

// made is a disk of noughts.
func made(t *testing.T, sectors int) *disk.Disk {
	t.Helper()
	d, e := disk.New(sectors)
	expect(t, "New", e, api.OK)
	return d
}

// holding is a disk that holds those sectors, settled.
func holding(t *testing.T, sectors []api.Block) *disk.Disk {
	t.Helper()
	d := made(t, len(sectors))
	for i, b := range sectors {
		expect(t, "Write", d.Write(i, b), api.OK)
	}
	expect(t, "Sync", d.Sync(), api.OK)
	return d
}

// spoilt is n sectors that are no ring's, none of noughts.
func spoilt(n int) []api.Block {
	out := make([]api.Block, n)
	for i := range out {
		copy(out[i][:], mixed(64, i+1))
	}
	return out
}

// mixed is n bytes, none of which is nought; each seed has others.
func mixed(n, seed int) []byte {
	b := make([]byte, n)
	x := uint32(seed)*2654435761 + 12345
	for i := range b {
		x = x*1664525 + 1013904223
		b[i] = byte(x>>24)%255 + 1
	}
	return b
}

// roomy is b with other bytes in the room behind its end.
func roomy(b []byte) []byte {
	out := make([]byte, len(b)+64)
	copy(out, b)
	for i := len(b); i < len(out); i++ {
		out[i] = 0xEE
	}
	return out[:len(b)]
}

// untouched asks for b, and for the room behind it, as roomy made them.
func untouched(t *testing.T, name string, b, want []byte) {
	t.Helper()
	if !bytes.Equal(b, want) || !bytes.Equal(b[:len(b)+64][len(b):], bytes.Repeat([]byte{0xEE}, 64)) {
		t.Fatalf("%s changed what was handed in", name)
	}
}

// said is what the sectors say, by a copy: nothing of that is counted. The disk must not be dead.
func said(d *disk.Disk) []api.Block {
	c := d.Copy()
	c.Fail(-1)
	out := make([]api.Block, c.Len())
	for i := range out {
		out[i], _ = c.Read(i)
	}
	return out
}

// behindCrash is what the sectors say behind a crash of a copy.
func behindCrash(d *disk.Disk, keep []bool) []api.Block {
	c := d.Copy()
	c.Crash(keep)
	return said(c)
}

// all is a keep that keeps everything.
var all = slices.Repeat([]bool{true}, api.MaxSectors)

// sameSectors holds sectors against those that are asked for.
func sameSectors(t *testing.T, name string, got, want []api.Block) {
	t.Helper()
	if len(got) != len(want) {
		t.Fatalf("%s: %d sectors, want %d", name, len(got), len(want))
	}
	for i := range got {
		if got[i] != want[i] {
			t.Fatalf("%s: sector %d:\n got %v\nwant %v", name, i, got[i], want[i])
		}
	}
}

// sameLists holds lists of bytes against each other.
func sameLists(a, b [][]byte) bool {
	return slices.EqualFunc(a, b, bytes.Equal)
}

// tells asks a ring for all that the model tells.
func tells(t *testing.T, name string, r *ring.Ring, m model) {
	t.Helper()
	if r == nil {
		t.Fatalf("%s: no ring", name)
	}
	if r.First() != m.first {
		t.Fatalf("%s: First %d, want %d", name, r.First(), m.first)
	}
	if got := r.All(); !sameLists(got, m.entries) {
		t.Fatalf("%s: All\n got %v\nwant %v", name, got, m.entries)
	}
	if got := r.Note(); !bytes.Equal(got, m.note) {
		t.Fatalf("%s: Note %v, want %v", name, got, m.note)
	}
	if r.Left() != m.left() {
		t.Fatalf("%s: Left %d, want %d", name, r.Left(), m.left())
	}
	if r.Broken() {
		t.Fatalf("%s: broken", name)
	}
}

// is asks a ring and its disk for just what the model has, all of it settled.
func is(t *testing.T, name string, d *disk.Disk, r *ring.Ring, m model) {
	t.Helper()
	tells(t, name, r, m)
	sameSectors(t, name, said(d), m.sectors)
	if p := d.Pending(); len(p) > 0 {
		t.Fatalf("%s: %v are pending", name, p)
	}
}

// laid is a ring that was made by calls, its disk, and what the model says of both.
type laid struct {
	disk *disk.Disk
	ring *ring.Ring
	model
}

// format is an empty ring of that size on a disk of so many sectors, on which something else stood.
func format(t *testing.T, sectors, size int) *laid {
	t.Helper()
	d := holding(t, spoilt(sectors))
	r, e := ring.Format(d, size)
	expect(t, "Format", e, api.OK)
	l := &laid{d, r, formatted(spoilt(sectors), size)}
	is(t, "Format", d, r, l.model)
	return l
}

// append puts an entry behind the last one, which there must be room for.
func (l *laid) append(t *testing.T, b []byte) {
	t.Helper()
	expect(t, "Append", l.ring.Append(b), api.OK)
	l.model = l.model.appended(b)
	is(t, "Append", l.disk, l.ring, l.model)
}

// cut takes the first n entries away.
func (l *laid) cut(t *testing.T, n int, note []byte) {
	t.Helper()
	expect(t, "Cut", l.ring.Cut(n, note), api.OK)
	l.model = l.model.cut(n, note)
	is(t, "Cut", l.disk, l.ring, l.model)
}

// open opens the ring again.
func (l *laid) open(t *testing.T) {
	t.Helper()
	r, e := ring.Open(l.disk)
	expect(t, "Open", e, api.OK)
	l.ring = r
	l.model = l.model.opened()
	is(t, "Open", l.disk, l.ring, l.model)
}

// copy is the same once more: a copy of the disk with a ring of its own, in a turn more.
func (l *laid) copy(t *testing.T) *laid {
	t.Helper()
	c := &laid{l.disk.Copy(), nil, l.model}
	c.open(t)
	return c
}

// refused calls what must be refused: neither the ring nor its disk has changed, and no operation was done.
func (l *laid) refused(t *testing.T, name string, want api.Errno, call func() api.Errno) {
	t.Helper()
	ops := l.disk.Ops()
	expect(t, name, call(), want)
	if l.disk.Ops() != ops {
		t.Fatalf("%s: %d operations", name, l.disk.Ops()-ops)
	}
	is(t, name, l.disk, l.ring, l.model)
}

// deed is something that is done to a disk: how it is begun anew on a disk of its own, how many Reads it does, and which Writes and Syncs behind these.
type deed struct {
	begin func() (d *disk.Disk, do func() api.Errno)
	reads int
	steps []step
}

// check asks for the deed's operations, in their order, for the error of the first one that has one, and for nothing behind that.
func (q deed) check(t *testing.T, name string) {
	t.Helper()
	q.checkWhole(t, name)
	for n := range q.steps {
		q.checkArmed(t, name, n)
	}
	for n := range q.reads + len(q.steps) {
		q.checkFails(t, name, n)
	}
}

// checkWhole asks for as many operations as are wanted, and as many Writes and Syncs.
func (q deed) checkWhole(t *testing.T, name string) {
	t.Helper()
	d, do := q.begin()
	want, ops := written(said(d), q.steps), d.Ops()
	d.Arm(len(q.steps))
	expect(t, name, do(), api.OK)
	if got := d.Ops() - ops; got != q.reads+len(q.steps) {
		t.Fatalf("%s: %d operations, want %d Reads and %d others", name, got, q.reads, len(q.steps))
	}
	sameSectors(t, name, said(d), want)
	if p := d.Pending(); len(p) > 0 {
		t.Fatalf("%s: %v are pending", name, p)
	}
	expect(t, name+", armed with just as many: a Sync", d.Sync(), api.ErrDead)
}

// checkArmed lets the power go at the n-th Write or Sync.
func (q deed) checkArmed(t *testing.T, name string, n int) {
	t.Helper()
	d, do := q.begin()
	before, ops := said(d), d.Ops()
	d.Arm(n)
	expect(t, name+", armed", do(), api.ErrDead)
	if got := d.Ops() - ops; got != q.reads+n+1 {
		t.Fatalf("%s, armed with %d: %d operations, with %d Reads", name, n, got, q.reads)
	}
	done := q.steps[:n]
	if !q.steps[n].sync {
		done = q.steps[:n+1] // the Write at which the power goes stands in the cache
	}
	pending, settled := pendingBehind(before, done)
	if !slices.Equal(d.Pending(), pending) {
		t.Fatalf("%s, armed with %d: %v are pending, want %v", name, n, d.Pending(), pending)
	}
	sameSectors(t, name+", armed, settled", behindCrash(d, nil), settled)
	sameSectors(t, name+", armed, said", behindCrash(d, all), written(before, done))
}

// checkFails lets the n-th operation fail.
func (q deed) checkFails(t *testing.T, name string, n int) {
	t.Helper()
	d, do := q.begin()
	before, ops := said(d), d.Ops()
	d.Fail(n)
	expect(t, name+", set to fail", do(), api.ErrIo)
	if got := d.Ops() - ops; got != n+1 {
		t.Fatalf("%s, set to fail with %d: %d operations", name, n, got)
	}
	done := q.steps[:max(n-q.reads, 0)]
	pending, settled := pendingBehind(before, done)
	if !slices.Equal(d.Pending(), pending) {
		t.Fatalf("%s, set to fail with %d: %v are pending, want %v", name, n, d.Pending(), pending)
	}
	sameSectors(t, name+", set to fail, settled", behindCrash(d, nil), settled)
	sameSectors(t, name+", set to fail, said", said(d), written(before, done))
}
