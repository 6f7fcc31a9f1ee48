package log_test

import (
	"math"
	"reflect"
	"slices"
	"strings"
	"testing"

	"bursary/api"
	"bursary/disk"
	"bursary/log"
	"bursary/record"
	"bursary/ring"
)

// key is short for a key.
func key(table int, id uint16) api.Key {
	return api.Key{Table: table, Id: id}
}

// at is short for a row.
func at(table int, id uint16, val int64, note string) api.Row {
	return api.Row{Key: key(table, id), Val: val, Note: note}
}

// leaf is short for a leaf.
func leaf(rows ...api.Row) api.Content {
	return api.Content{Kind: api.KindLeaf, Rows: rows}
}

// inner is short for an inner page.
func inner(kids ...api.Kid) api.Content {
	return api.Content{Kind: api.KindInner, Kids: kids}
}

// long is a note of n bytes.
func long(n int) string {
	return strings.Repeat("n", n)
}

// full is a leaf of as many bytes as a content may have; unlike numbers have unlike ones.
func full(n int64) api.Content {
	return leaf(at(0, 0, n, long(8)), at(0, 7, -n, long(8)), at(1, 7, n+1, long(8)), at(2, 65535, math.MinInt64, long(8)))
}

// head is a record of which nothing counts besides.
func head(kind int, lsn uint64, txn int, prev uint64) api.Rec {
	return api.Rec{Kind: kind, Lsn: lsn, Txn: txn, Prev: prev}
}

// begin is the shortest record, of one sector, whatever its Lsn.
func begin(lsn uint64) api.Rec {
	return head(api.RecBegin, lsn, 7, 0)
}

// change is a RecChange of n pages, of the most bytes that there are; the Lsn is above 1.
func change(lsn uint64, n int) api.Rec {
	r := head(api.RecChange, lsn, 7, lsn-1)
	for i := range n {
		r.Images = append(r.Images, api.Image{Page: 3 * i, Before: full(int64(lsn)), After: full(int64(i))})
	}
	return r
}

// ckpt is a checkpoint of so many transactions and pages; the Lsn is above 1.
func ckpt(lsn uint64, txns, pages int) api.Rec {
	r := api.Rec{Kind: api.RecCkpt, Lsn: lsn, NextTxn: 100}
	for i := range txns {
		r.Txns = append(r.Txns, api.CkTxn{Txn: i + 1, First: 1, Last: lsn - 1, Undo: uint64(i) % lsn, State: api.TxnLive + i%3})
	}
	for i := range pages {
		r.Dirty = append(r.Dirty, api.CkPage{Page: i, Rec: lsn - 1})
	}
	return r
}

// some is a record of that Lsn; which Kind, and how long, hangs on seed. Some have lists of nothing that are not nil.
func some(lsn uint64, seed int) api.Rec {
	if lsn < 3 {
		return begin(lsn)
	}
	switch seed % 9 {
	case 1:
		return change(lsn, 1+seed%api.MaxImages)
	case 2:
		r := head(api.RecNested, lsn, 1+seed%50, lsn-1)
		r.Next, r.Steps, r.Txns = lsn-2, []api.Step{}, []api.CkTxn{}
		return r
	case 3:
		r := head(api.RecDone, lsn, 1+seed%50, 2)
		r.Next = 1
		r.Steps = []api.Step{{Kind: api.StepAdd, Row: at(1, 3, 0, ""), By: -2}, {Kind: api.StepPut, Row: at(2, 9, int64(seed), long(seed%9))}}
		return r
	case 4:
		r := head(api.RecUndone, lsn, 1+seed%50, lsn-1)
		r.Next = lsn - 1
		r.Images = []api.Image{{Page: 3, After: inner(api.Kid{Page: 1}, api.Kid{Least: key(1, 7), Page: 63})}, {Page: 63, After: leaf(at(1, 1, int64(seed), "a"))}}
		return r
	case 5, 6, 7:
		return head(api.RecCommit+seed%9-5, lsn, api.MaxTxn, 1)
	case 8:
		return ckpt(lsn, seed%api.MaxLive+1, seed%(api.MaxPages+1))
	}
	return begin(lsn)
}

// strangeRecs are records that may not be, for one thing each; some have the Lsn.
func strangeRecs(lsn uint64) []api.Rec {
	nobody, late, bare, two := begin(lsn), head(api.RecCommit, lsn, 7, lsn), change(lsn+1, 1), begin(lsn)
	nobody.Txn, bare.Images, two.Next = 0, nil, 1
	great := begin(lsn)
	great.Txn = api.MaxTxn + 1
	page := change(lsn+1, 1)
	page.Images[0].Page = api.MaxPages
	return []api.Rec{{}, {Kind: api.RecBegin}, head(0, lsn, 7, 0), head(10, lsn, 7, 0), head(-1, lsn, 7, 0), begin(0), begin(api.MaxLsn + 1), begin(math.MaxUint64), nobody, late, bare, two, great, page}
}

// plain is a record in which lists of nothing are nil.
func plain(r api.Rec) api.Rec {
	out := r
	out.Images, out.Steps, out.Txns, out.Dirty = none(r.Images), none(r.Steps), none(r.Txns), none(r.Dirty)
	for i, im := range out.Images {
		out.Images[i] = api.Image{Page: im.Page, Before: plainContent(im.Before), After: plainContent(im.After)}
	}
	return out
}

// plainContent is a content in which lists of nothing are nil.
func plainContent(c api.Content) api.Content {
	return api.Content{Kind: c.Kind, Rows: none(c.Rows), Kids: none(c.Kids)}
}

// none is a copy of a list, and nil of nothing.
func none[T any](l []T) []T {
	if len(l) == 0 {
		return nil
	}
	return slices.Clone(l)
}

// alike says whether two records are the same, with nothing of the program's own.
func alike(a, b api.Rec) bool {
	return reflect.DeepEqual(plain(a), plain(b))
}

// expect holds an error against the one that is asked for.
func expect(t *testing.T, name string, got, want api.Errno) {
	t.Helper()
	if got != want {
		t.Fatalf("%s: error %d, want %d", name, got, want)
	}
}

// bytesOf is the bytes of a record that may be.
func bytesOf(t *testing.T, r api.Rec) []byte {
	t.Helper()
	b, e := record.Encode(r)
	expect(t, "Encode", e, api.OK)
	return b
}

// cost is how many sectors a record has.
func cost(t *testing.T, r api.Rec) int {
	t.Helper()
	n, e := record.Cost(r)
	expect(t, "Cost", e, api.OK)
	return n
}

// made is a disk of noughts.
func made(t *testing.T, sectors int) *disk.Disk {
	t.Helper()
	d, e := disk.New(sectors)
	expect(t, "New", e, api.OK)
	return d
}

// dead is a disk whose power is gone.
func dead(t *testing.T, sectors int) *disk.Disk {
	t.Helper()
	d := made(t, sectors)
	expect(t, "Arm", d.Arm(0), api.OK)
	expect(t, "Sync", d.Sync(), api.ErrDead)
	return d
}

// said is what the sectors say, by a copy behind a crash that keeps everything.
func said(d *disk.Disk) []api.Block {
	return behindCrash(d, slices.Repeat([]bool{true}, api.MaxSectors))
}

// behindCrash is what the sectors say behind a crash of a copy.
func behindCrash(d *disk.Disk, keep []bool) []api.Block {
	c := d.Copy()
	c.Crash(keep)
	out := make([]api.Block, c.Len())
	for i := range out {
		out[i], _ = c.Read(i)
	}
	return out
}

// high is x in n bytes, the highest one first.
func high(x uint64, n int) []byte {
	b := make([]byte, n)
	for i := n - 1; i >= 0; i-- {
		b[i] = byte(x)
		x >>= 8
	}
	return b
}

// noteOf is a note's bytes.
func noteOf(master uint64, next int) []byte {
	return slices.Concat(high(master, 8), high(uint64(next), 4))
}

// headAt puts a right head of a ring of that size, of no entries, with that turn, first number and note, over a disk's first sector.
func headAt(t *testing.T, d *disk.Disk, turn, first uint64, size int, note []byte) {
	t.Helper()
	var b api.Block
	copy(b[:], slices.Concat([]byte("bursring"), high(turn, 4), high(uint64(size), 2), high(first, 5), high(0, 2), high(uint64(len(note)), 1), note))
	expect(t, "Write of a head", d.Write(0, b), api.OK)
	expect(t, "Write of the other one", d.Write(1, api.Block{}), api.OK)
	expect(t, "Sync of a head", d.Sync(), api.OK)
}

// model is what a log is, as the chapter says it.
type model struct {
	base, flushed uint64
	records       []api.Rec
	master        uint64
	next          int
	noted         bool // the note has bytes
}

// empty is what Format makes.
func empty() model {
	return model{base: 1, next: 1}
}

// nextLsn is the Lsn that the next record has.
func (m model) nextLsn() uint64 {
	return m.base + uint64(len(m.records))
}

// used is how many sectors the records cost.
func (m model) used(t *testing.T) int {
	t.Helper()
	n := 0
	for _, r := range m.records {
		n += cost(t, r)
	}
	return n
}

// appended is the log with a record more.
func (m model) appended(r api.Rec) model {
	m.records = append(slices.Clone(m.records), r)
	return m
}

// flushedTo is the log of which the records up to that Lsn are flushed; if more are already, these stay so.
func (m model) flushedTo(to uint64) model {
	m.flushed = max(m.flushed, to)
	return m
}

// truncated is the log without the records ahead of from.
func (m model) truncated(from, master uint64, next int) model {
	m.records = slices.Clone(m.records[from-m.base:])
	m.base, m.master, m.next, m.noted = from, master, next, true
	return m
}

// opened is the log without its tail.
func (m model) opened() model {
	m.records = slices.Clone(m.records[:m.flushed+1-m.base])
	return m
}

// same says whether both are the same log.
func (m model) same(o model) bool {
	return m.base == o.base && m.flushed == o.flushed && m.master == o.master && m.next == o.next && slices.EqualFunc(m.records, o.records, alike)
}

// tells asks a log for all that the model tells.
func tells(t *testing.T, name string, l *log.Log, m model) {
	t.Helper()
	if l == nil {
		t.Fatalf("%s: no log", name)
	}
	if l.Base() != m.base || l.Next() != m.nextLsn() || l.Flushed() != m.flushed || l.Master() != m.master || l.NextTxn() != m.next || l.Used() != m.used(t) {
		t.Fatalf("%s: Base %d, Next %d, Flushed %d, Master %d, NextTxn %d, Used %d; want %d, %d, %d, %d, %d, %d", name, l.Base(), l.Next(), l.Flushed(), l.Master(), l.NextTxn(), l.Used(), m.base, m.nextLsn(), m.flushed, m.master, m.next, m.used(t))
	}
	if got := l.Recs(0); !slices.EqualFunc(got, m.records, alike) {
		t.Fatalf("%s: Recs\n got %v\nwant %v", name, got, m.records)
	}
	for i, want := range m.records {
		if r, e := l.Rec(m.base + uint64(i)); e != api.OK || !alike(r, want) {
			t.Fatalf("%s: Rec(%d): %v, error %d, want %v", name, m.base+uint64(i), r, e, want)
		}
	}
	for _, lsn := range []uint64{0, m.base - 1, m.nextLsn(), math.MaxUint64} {
		lacks(t, name, l, lsn)
	}
}

// lacks asks a log for a record that it has not.
func lacks(t *testing.T, name string, l *log.Log, lsn uint64) {
	t.Helper()
	if r, e := l.Rec(lsn); e != api.ErrNone || !reflect.DeepEqual(r, api.Rec{}) {
		t.Fatalf("%s: Rec(%d): %v, error %d, want none", name, lsn, r, e)
	}
}

// holds asks the ring on a disk for just what is flushed of the model, by a copy.
func holds(t *testing.T, name string, d *disk.Disk, m model) {
	t.Helper()
	c := d.Copy()
	c.Crash(slices.Repeat([]bool{true}, api.MaxSectors))
	r, e := ring.Open(c)
	expect(t, name+": the ring", e, api.OK)
	var want [][]byte
	for _, x := range m.opened().records {
		want = append(want, bytesOf(t, x))
	}
	if r.First() != m.base || !slices.EqualFunc(r.All(), want, slices.Equal) {
		t.Fatalf("%s: the ring has from %d on\n got %v\nwant %v from %d on", name, r.First(), r.All(), want, m.base)
	}
	var note []byte
	if m.noted {
		note = noteOf(m.master, m.next)
	}
	if !slices.Equal(r.Note(), note) {
		t.Fatalf("%s: the note is % X, want % X", name, r.Note(), note)
	}
}

// is asks a log and its disk for just what the model has, with nothing pending.
func is(t *testing.T, name string, d *disk.Disk, l *log.Log, m model) {
	t.Helper()
	tells(t, name, l, m)
	holds(t, name, d, m)
	if l.Broken() {
		t.Fatalf("%s: broken", name)
	}
	if p := d.Pending(); len(p) > 0 {
		t.Fatalf("%s: %v are pending", name, p)
	}
}

// kept is a log that was made by calls, its disk, and what the model says of both.
type kept struct {
	disk *disk.Disk
	log  *log.Log
	model
}

// format is an empty log in that many places.
func format(t *testing.T, area int) *kept {
	t.Helper()
	d := made(t, area+api.RingHeads)
	l, e := log.Format(d, area)
	expect(t, "Format", e, api.OK)
	k := &kept{d, l, empty()}
	is(t, "Format", d, l, k.model)
	return k
}

// append puts a record behind the last one.
func (k *kept) append(t *testing.T, r api.Rec, reserved int) {
	t.Helper()
	expect(t, "Append", k.log.Append(r, reserved), api.OK)
	k.model = k.model.appended(r)
}

// fill appends n records of many Kinds.
func (k *kept) fill(t *testing.T, n int) {
	t.Helper()
	for range n {
		k.append(t, some(k.nextLsn(), int(k.nextLsn())), 0)
	}
}

// flush flushes up to that Lsn.
func (k *kept) flush(t *testing.T, to uint64) {
	t.Helper()
	expect(t, "Flush", k.log.Flush(to), api.OK)
	k.model = k.model.flushedTo(to)
	is(t, "Flush", k.disk, k.log, k.model)
}

// truncate cuts off what is ahead of from.
func (k *kept) truncate(t *testing.T, from, master uint64, next int) {
	t.Helper()
	expect(t, "Truncate", k.log.Truncate(from, master, next), api.OK)
	k.model = k.model.truncated(from, master, next)
	is(t, "Truncate", k.disk, k.log, k.model)
}

// open opens the log again.
func (k *kept) open(t *testing.T) {
	t.Helper()
	l, e := log.Open(k.disk)
	expect(t, "Open", e, api.OK)
	k.log, k.model = l, k.model.opened()
	is(t, "Open", k.disk, k.log, k.model)
}

// refused calls what must be refused: neither the log nor its disk has changed, and no operation was done.
func (k *kept) refused(t *testing.T, name string, want api.Errno, call func() api.Errno) {
	t.Helper()
	ops, before := k.disk.Ops(), said(k.disk)
	expect(t, name, call(), want)
	if k.disk.Ops() != ops || !slices.Equal(said(k.disk), before) {
		t.Fatalf("%s: %d operations", name, k.disk.Ops()-ops)
	}
	tells(t, name, k.log, k.model)
}

// busy is a log with Base 4, with three records that are flushed, and with two in the tail, and a master.
func busy(t *testing.T) *kept {
	t.Helper()
	k := format(t, 40)
	k.fill(t, 6)
	k.flush(t, 6)
	k.truncate(t, 4, 5, 9)
	k.append(t, change(7, 2), 0)
	k.append(t, begin(8), 0)
	tells(t, "busy", k.log, k.model)
	return k
}
