package file_test

import (
	"math"
	"slices"
	"strings"
	"testing"

	"bursary/api"
	"bursary/disk"
	"bursary/file"
)

// free is a page of nothing.
var free = api.Content{Kind: api.KindFree}

// key is short for a key.
func key(table int, id uint16) api.Key {
	return api.Key{Table: table, Id: id}
}

// at is short for a row.
func at(table int, id uint16, val int64, note string) api.Row {
	return api.Row{Key: key(table, id), Val: val, Note: note}
}

// leaf is short for a leaf.
func leaf(rows ...api.Row) api.Content {
	return api.Content{Kind: api.KindLeaf, Rows: rows}
}

// inner is short for an inner page.
func inner(kids ...api.Kid) api.Content {
	return api.Content{Kind: api.KindInner, Kids: kids}
}

// on is short for a kid.
func on(table int, id uint16, page int) api.Kid {
	return api.Kid{Least: key(table, id), Page: page}
}

// one is a leaf of one row; unlike numbers have unlike ones.
func one(n int) api.Content {
	return leaf(at(n%3, uint16(n), int64(n)*-77, strings.Repeat("n", n%9)))
}

// long is a note of n bytes.
func long(n int) string {
	return strings.Repeat("\xff", n)
}

// contents is contents of each Kind: of the fewest bytes and of the most, with noughts at the end, and with just as many as the first part has, one fewer and one more.
func contents() []api.Content {
	return []api.Content{
		free,
		leaf(),
		leaf(at(0, 0, 0, "")),
		leaf(at(2, 65535, -1, "\x00\x00")),
		leaf(at(0, 0, math.MinInt64, long(6)), at(0, 1, math.MaxInt64, long(8))),
		leaf(at(0, 0, math.MinInt64, long(7)), at(0, 1, math.MaxInt64, long(8))),
		leaf(at(0, 0, math.MinInt64, long(8)), at(0, 1, math.MaxInt64, long(8))),
		leaf(at(0, 0, 0, ""), at(0, 1, 0, ""), at(1, 0, 0, ""), at(2, 0, 0, "")),
		leaf(at(0, 0, 1, long(8)), at(0, 1, 2, long(8)), at(1, 0, 3, long(8)), at(2, 65535, -4, long(8))),
		inner(on(0, 0, 1), on(0, 1, 63)),
		inner(on(0, 0, 63), on(0, 1, 2), on(1, 0, 1), on(2, 65535, 7)),
	}
}

// wrong is contents that may not be.
func wrong() []api.Content {
	return []api.Content{
		{Kind: 3}, {Kind: -1}, {Kind: math.MaxInt}, {Kind: 256}, {Kind: 257},
		{Kind: api.KindFree, Rows: []api.Row{{}}},
		{Kind: api.KindFree, Kids: []api.Kid{{Page: 1}}},
		leaf(at(0, 1, 0, ""), at(0, 2, 0, ""), at(0, 3, 0, ""), at(0, 4, 0, ""), at(0, 5, 0, "")),
		leaf(at(0, 1, 0, ""), at(0, 1, 0, "")),
		leaf(at(1, 1, 0, ""), at(0, 2, 0, "")),
		leaf(at(3, 1, 0, "")), leaf(at(-1, 1, 0, "")), leaf(at(0, 1, 0, long(9))), leaf(at(0, 1, 0, long(300))),
		{Kind: api.KindLeaf, Kids: []api.Kid{{Page: 1}}},
		inner(), inner(on(0, 0, 1)),
		inner(on(0, 0, 1), on(0, 1, 1)), inner(on(0, 0, 1), on(0, 0, 2)), inner(on(0, 1, 1), on(0, 2, 2)),
		inner(on(0, 0, 0), on(0, 1, 1)), inner(on(0, 0, 1), on(0, 1, 64)), inner(on(0, 0, 1), on(3, 1, 2)),
		inner(on(0, 0, 1), on(0, 1, 2), on(0, 2, 3), on(0, 3, 4), on(0, 4, 5)),
		{Kind: api.KindInner, Kids: []api.Kid{on(0, 0, 1), on(0, 1, 2)}, Rows: []api.Row{{}}},
	}
}

// alike says whether two contents are the same, with nothing of the program's own.
func alike(a, b api.Content) bool {
	return a.Kind == b.Kind && slices.Equal(a.Rows, b.Rows) && slices.Equal(a.Kids, b.Kids)
}

// expect holds an error against the one that is asked for.
func expect(t *testing.T, name string, got, want api.Errno) {
	t.Helper()
	if got != want {
		t.Fatalf("%s: error %d, want %d", name, got, want)
	}
}

// made is a disk of noughts.
func made(t *testing.T, sectors int) *disk.Disk {
	t.Helper()
	d, e := disk.New(sectors)
	expect(t, "New", e, api.OK)
	return d
}

// holding is a disk that holds those sectors, settled.
func holding(t *testing.T, sectors []api.Block) *disk.Disk {
	t.Helper()
	d := made(t, len(sectors))
	for i, b := range sectors {
		expect(t, "Write", d.Write(i, b), api.OK)
	}
	expect(t, "Sync", d.Sync(), api.OK)
	return d
}

// mixed is 64 bytes, none of which is nought; each seed has others.
func mixed(seed int) api.Block {
	var b api.Block
	x := uint32(seed)*2654435761 + 12345
	for i := range b {
		x = x*1664525 + 1013904223
		b[i] = byte(x>>24)%255 + 1
	}
	return b
}

// spoilt is n sectors of which none is right.
func spoilt(n int) []api.Block {
	out := make([]api.Block, n)
	for i := range out {
		out[i] = mixed(i + 1)
	}
	return out
}

// open is the file from that sector on.
func open(t *testing.T, d *disk.Disk, base int) *file.File {
	t.Helper()
	f, e := file.Open(d, base)
	expect(t, "Open", e, api.OK)
	return f
}

// said is what the sectors say, by a copy: nothing of that is counted. The disk must not be dead.
func said(d *disk.Disk) []api.Block {
	c := d.Copy()
	c.Fail(-1)
	out := make([]api.Block, c.Len())
	for i := range out {
		out[i], _ = c.Read(i)
	}
	return out
}

// behindCrash is what the sectors say behind a crash of a copy.
func behindCrash(d *disk.Disk, keep []bool) []api.Block {
	c := d.Copy()
	c.Crash(keep)
	return said(c)
}

// all is a keep that keeps everything.
var all = slices.Repeat([]bool{true}, api.MaxSectors)

// choices are all keeps of n parts.
func choices(n int) [][]bool {
	out := make([][]bool, 1<<n)
	for x := range out {
		keep := make([]bool, n)
		for i := range keep {
			keep[i] = x>>i&1 == 1
		}
		out[x] = keep
	}
	return out
}

// sameSectors holds sectors against those that are asked for.
func sameSectors(t *testing.T, name string, got, want []api.Block) {
	t.Helper()
	if len(got) != len(want) {
		t.Fatalf("%s: %d sectors, want %d", name, len(got), len(want))
	}
	for i := range got {
		if got[i] != want[i] {
			t.Fatalf("%s: sector %d:\n got %v\nwant %v", name, i, got[i], want[i])
		}
	}
}

// settled asks a disk for just these sectors, with nothing pending.
func settled(t *testing.T, name string, d *disk.Disk, want []api.Block) {
	t.Helper()
	sameSectors(t, name, said(d), want)
	if p := d.Pending(); len(p) > 0 {
		t.Fatalf("%s: %v are pending", name, p)
	}
}

// reads asks a page for a content and an Lsn.
func reads(t *testing.T, name string, f *file.File, page int, want api.Content, wantLsn uint64) {
	t.Helper()
	c, lsn, e := f.Read(page)
	if e != api.OK || !alike(c, want) || lsn != wantLsn {
		t.Fatalf("%s: Read(%d) is %v, %d, error %d; want %v, %d", name, page, c, lsn, e, want, wantLsn)
	}
}

// readsNothing asks a page for an error, and for zeros beside it.
func readsNothing(t *testing.T, name string, f *file.File, page int, want api.Errno) {
	t.Helper()
	c, lsn, e := f.Read(page)
	if e != want || c.Kind != 0 || c.Rows != nil || c.Kids != nil || lsn != 0 {
		t.Fatalf("%s: Read(%d) is %v, %d, error %d; want error %d", name, page, c, lsn, e, want)
	}
}

// readsAll asks all pages for what those sectors say.
func readsAll(t *testing.T, name string, f *file.File, sectors []api.Block) {
	t.Helper()
	for page := range 64 {
		s := says(sectors, f.Base(), page)
		reads(t, name, f, page, s.content, s.lsn)
	}
}

// refused calls what must be refused with so many Reads, and nothing else done.
func refused(t *testing.T, name string, d *disk.Disk, reads int, want api.Errno, call func() api.Errno) {
	t.Helper()
	before, ops := behindCrash(d, all), d.Ops()
	expect(t, name, call(), want)
	if got := d.Ops() - ops; got != reads {
		t.Fatalf("%s: %d operations, want %d", name, got, reads)
	}
	sameSectors(t, name, behindCrash(d, all), before)
}

// strangePages are numbers of which there is no page.
func strangePages() []int {
	return []int{-1, -64, math.MinInt, 64, 65, 256, 320, 1 << 32, math.MaxInt}
}

// somePages are pages at the ends, and between.
func somePages() []int {
	return []int{0, 1, 5, 62, 63}
}

// deed is something that is done to a disk: how it is begun anew on a disk of its own, how many Reads it does, and which Writes and Syncs behind these.
type deed struct {
	begin func() (d *disk.Disk, do func() api.Errno)
	reads int
	steps []step
}

// check asks for the deed's operations, in their order, for the error of the first one that has one, and for nothing behind that.
func (q deed) check(t *testing.T, name string) {
	t.Helper()
	q.checkWhole(t, name)
	for n := range q.steps {
		q.checkArmed(t, name, n)
	}
	for n := range q.reads + len(q.steps) {
		q.checkFails(t, name, n)
	}
}

// checkWhole asks for as many operations as are wanted, and as many Writes and Syncs.
func (q deed) checkWhole(t *testing.T, name string) {
	t.Helper()
	d, do := q.begin()
	want, ops := written(said(d), q.steps), d.Ops()
	d.Arm(len(q.steps))
	expect(t, name, do(), api.OK)
	if got := d.Ops() - ops; got != q.reads+len(q.steps) {
		t.Fatalf("%s: %d operations, want %d Reads and %d others", name, got, q.reads, len(q.steps))
	}
	settled(t, name, d, want)
	expect(t, name+", armed with just as many: a Sync", d.Sync(), api.ErrDead)
}

// checkArmed lets the power go at the n-th Write or Sync.
func (q deed) checkArmed(t *testing.T, name string, n int) {
	t.Helper()
	d, do := q.begin()
	before, ops := said(d), d.Ops()
	d.Arm(n)
	expect(t, name+", armed", do(), api.ErrDead)
	if got := d.Ops() - ops; got != q.reads+n+1 {
		t.Fatalf("%s, armed with %d: %d operations, with %d Reads", name, n, got, q.reads)
	}
	done := q.steps[:n]
	if !q.steps[n].sync {
		done = q.steps[:n+1] // the Write at which the power goes stands in the cache
	}
	q.checkCut(t, name+", armed", d, before, done)
}

// checkFails lets the n-th operation fail.
func (q deed) checkFails(t *testing.T, name string, n int) {
	t.Helper()
	d, do := q.begin()
	before, ops := said(d), d.Ops()
	d.Fail(n)
	expect(t, name+", set to fail", do(), api.ErrIo)
	if got := d.Ops() - ops; got != n+1 {
		t.Fatalf("%s, set to fail with %d: %d operations", name, n, got)
	}
	q.checkCut(t, name+", set to fail", d, before, q.steps[:max(n-q.reads, 0)])
}

// checkCut asks a disk for just what those steps leave.
func (q deed) checkCut(t *testing.T, name string, d *disk.Disk, before []api.Block, done []step) {
	t.Helper()
	pending, settled := pendingBehind(before, done)
	if !slices.Equal(d.Pending(), pending) {
		t.Fatalf("%s: %v are pending, want %v", name, d.Pending(), pending)
	}
	sameSectors(t, name+", settled", behindCrash(d, nil), settled)
	sameSectors(t, name+", said", behindCrash(d, all), written(before, done))
}
