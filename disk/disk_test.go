package disk_test

import (
	"math"
	"reflect"
	"slices"
	"testing"

	"bursary/api"
	"bursary/disk"
)

// block is a block that x names; that of 0 is of noughts. Its last bytes differ, too.
func block(x byte) api.Block {
	var b api.Block
	for i := range b {
		b[i] = x * byte(i+1)
	}
	return b
}

// made is a new disk.
func made(t *testing.T, sectors int) *disk.Disk {
	t.Helper()
	d, e := disk.New(sectors)
	if d == nil || e != api.OK {
		t.Fatalf("New(%d): %v, error %d", sectors, d, e)
	}
	return d
}

// all is a keep that keeps n.
func all(n int) []bool {
	return slices.Repeat([]bool{true}, n)
}

// expect holds an error against the one that is asked for.
func expect(t *testing.T, name string, got, want api.Errno) {
	t.Helper()
	if got != want {
		t.Fatalf("%s: error %d, want %d", name, got, want)
	}
}

// says asks for the block that a sector says, by an operation.
func says(t *testing.T, d *disk.Disk, i int, want byte) {
	t.Helper()
	if b, e := d.Read(i); b != block(want) || e != api.OK {
		t.Fatalf("Read(%d): %v, error %d; want the block %d", i, b, e, want)
	}
}

// pending asks for the sectors that are pending.
func pending(t *testing.T, d *disk.Disk, want ...int) {
	t.Helper()
	if got := d.Pending(); !slices.Equal(got, want) {
		t.Fatalf("Pending: %v, want %v", got, want)
	}
}

// reach is how far a view looks for the power's end and for a failure.
const reach = 6

// view is all that later calls could tell of a disk. Of a dead one armed and fails are -2, for nothing tells them.
type view struct {
	sectors, ops int
	pending      []int
	dead         bool
	held, says   []api.Block
	armed, fails int
}

// look views a disk, by copies alone.
func look(d *disk.Disk) view {
	v := view{sectors: d.Len(), ops: d.Ops(), pending: append([]int{}, d.Pending()...), dead: d.Dead()}
	v.held = blocks(d, nil)
	v.says = blocks(d, all(d.Len()))
	v.armed, v.fails = -2, -2
	if !v.dead {
		v.armed, v.fails = countArmed(d.Copy()), countFails(d.Copy())
	}
	return v
}

// blocks is what the sectors hold behind a crash of a copy.
func blocks(d *disk.Disk, keep []bool) []api.Block {
	c := d.Copy()
	c.Crash(keep)
	var out []api.Block
	for i := range c.Len() {
		b, _ := c.Read(i)
		out = append(out, b)
	}
	return out
}

// countArmed is behind how many Syncs the power goes, or -1.
func countArmed(d *disk.Disk) int {
	d.Fail(-1)
	for n := range reach {
		if d.Sync() == api.ErrDead {
			return n
		}
	}
	return -1
}

// countFails is behind how many Reads one fails, or -1.
func countFails(d *disk.Disk) int {
	for n := range reach {
		if _, e := d.Read(0); e == api.ErrIo {
			return n
		}
	}
	return -1
}

// same holds two views against each other.
func same(t *testing.T, name string, got, want view) {
	t.Helper()
	if !reflect.DeepEqual(got, want) {
		t.Fatalf("%s:\n got %v\nwant %v", name, got, want)
	}
}

// busy is a disk with all that a disk can have: sectors held, sectors pending, operations, armed and set to fail.
func busy(t *testing.T) *disk.Disk {
	t.Helper()
	d := made(t, 4)
	d.Write(0, block(1))
	d.Write(1, block(2))
	d.Sync()
	d.Write(3, block(3))
	d.Write(1, block(4))
	d.Arm(3)
	d.Fail(5)
	return d
}

// gone is a busy disk that is dead.
func gone(t *testing.T) *disk.Disk {
	t.Helper()
	d := busy(t)
	d.Arm(0)
	expect(t, "the Write at which the power goes", d.Write(2, block(5)), api.ErrDead)
	return d
}

// places are places that a disk of n sectors has none of.
func places(n int) []int {
	return []int{-1, math.MinInt, n, n + 1, math.MaxInt, -n}
}

// P2.1
func TestNew(t *testing.T) {
	for _, n := range []int{0, -1, math.MinInt, api.MaxSectors + 1, math.MaxInt} {
		if d, e := disk.New(n); d != nil || e != api.ErrArg {
			t.Errorf("New(%d): %v, error %d", n, d, e)
		}
	}
	for _, n := range []int{1, 2, api.MaxSectors - 1, api.MaxSectors} {
		d := made(t, n)
		if d.Len() != n || d.Ops() != 0 || d.Dead() {
			t.Errorf("New(%d): %d sectors, %d operations, dead: %t", n, d.Len(), d.Ops(), d.Dead())
		}
		pending(t, d)
		for i := range n {
			says(t, d, i, 0)
		}
		if v := look(made(t, n)); v.armed != -1 || v.fails != -1 {
			t.Errorf("New(%d): armed with %d, set to fail with %d", n, v.armed, v.fails)
		}
	}
}

// P2.1: each call makes a disk of its own.
func TestNewSharesNothing(t *testing.T) {
	a, b := made(t, 2), made(t, 2)
	want := look(b)
	a.Write(0, block(1))
	a.Sync()
	a.Write(1, block(2))
	a.Arm(1)
	a.Fail(1)
	same(t, "a second disk", look(b), want)
}

// P2.1: a copy is the same in all that it has: blocks, operations, what it is armed with and set to fail with, the power.
func TestCopyIsTheSame(t *testing.T) {
	c := busy(t).Copy()
	same(t, "a copy", look(c), look(busy(t)))
	if v := look(c); v.sectors != 4 || v.ops != 5 || v.armed != 3 || v.fails != 5 || !slices.Equal(v.pending, []int{1, 3}) {
		t.Fatalf("a copy: %v", v)
	}
	same(t, "a copy of a dead disk", look(gone(t).Copy()), look(gone(t)))
	var none *disk.Disk
	if c := none.Copy(); c != nil {
		t.Fatalf("a copy of nil: %v", c)
	}
}

// deeds are all that can be done to a disk, each by a name.
func deeds() map[string]func(d *disk.Disk) {
	return map[string]func(d *disk.Disk){
		"Read":             func(d *disk.Disk) { d.Read(1) },
		"Write":            func(d *disk.Disk) { d.Write(1, block(77)) },
		"Write, not yet":   func(d *disk.Disk) { d.Write(2, block(77)) },
		"Sync":             func(d *disk.Disk) { d.Sync() },
		"Write, Sync":      func(d *disk.Disk) { d.Write(0, block(77)); d.Sync() },
		"Arm":              func(d *disk.Disk) { d.Arm(1) },
		"not armed":        func(d *disk.Disk) { d.Arm(-1) },
		"the power goes":   func(d *disk.Disk) { d.Arm(0); d.Sync() },
		"Fail":             func(d *disk.Disk) { d.Fail(1) },
		"one fails":        func(d *disk.Disk) { d.Fail(0); d.Sync() },
		"Crash":            func(d *disk.Disk) { d.Crash(nil) },
		"Crash, one kept":  func(d *disk.Disk) { d.Crash([]bool{true}) },
		"Crash, all kept":  func(d *disk.Disk) { d.Crash(all(4)) },
		"Crash, and Write": func(d *disk.Disk) { d.Crash(nil); d.Write(0, block(77)) },
		"the list told":    func(d *disk.Disk) { clear(d.Pending()) },
	}
}

// P2.1: what is done to a copy is not seen of the other one, and the other way round.
func TestCopySharesNothing(t *testing.T) {
	for _, make := range []func(t *testing.T) *disk.Disk{busy, gone} {
		want := look(make(t))
		for name, do := range deeds() {
			d := make(t)
			c := d.Copy()
			do(c)
			same(t, name+" of a copy, seen of the first one", look(d), want)
			c = d.Copy()
			do(d)
			same(t, name+" of the first one, seen of a copy", look(c), want)
		}
	}
}

// P2.2
func TestReadAndWrite(t *testing.T) {
	d := made(t, 3)
	expect(t, "Write", d.Write(1, block(5)), api.OK)
	says(t, d, 1, 5)
	says(t, d, 0, 0)
	says(t, d, 2, 0)
	expect(t, "Write", d.Write(1, block(6)), api.OK)
	says(t, d, 1, 6)
	pending(t, d, 1)
	expect(t, "Sync", d.Sync(), api.OK)
	says(t, d, 1, 6)
	expect(t, "Write behind a Sync", d.Write(1, block(7)), api.OK)
	says(t, d, 1, 7)
	expect(t, "Write of noughts", d.Write(1, block(0)), api.OK)
	says(t, d, 1, 0)
	expect(t, "Crash", d.Crash(nil), api.OK)
	says(t, d, 1, 6)
}

// P2.2: each sector has a block of its own, at both ends of the disk, too.
func TestAllSectors(t *testing.T) {
	for _, n := range []int{1, 2, api.MaxSectors - 1, api.MaxSectors} {
		d := made(t, n)
		for i := range n {
			expect(t, "Write", d.Write(i, block(byte(i%251+1))), api.OK)
		}
		for i := range n {
			says(t, d, i, byte(i%251+1))
		}
		expect(t, "Sync", d.Sync(), api.OK)
		for i := range n {
			says(t, d, i, byte(i%251+1))
		}
	}
}

// P2.2
func TestSync(t *testing.T) {
	d := made(t, 3)
	expect(t, "Sync of nothing", d.Sync(), api.OK)
	d.Write(2, block(1))
	d.Write(0, block(2))
	expect(t, "Sync", d.Sync(), api.OK)
	pending(t, d)
	expect(t, "Crash", d.Crash(nil), api.OK)
	says(t, d, 0, 2)
	says(t, d, 1, 0)
	says(t, d, 2, 1)
	d.Write(2, block(3))
	expect(t, "Sync", d.Sync(), api.OK)
	expect(t, "Crash", d.Crash(nil), api.OK)
	says(t, d, 0, 2)
	says(t, d, 2, 3)
}

// P2.2: places that there are none of are refused, and nothing has changed.
func TestNoSuchSector(t *testing.T) {
	for _, n := range []int{1, 3, api.MaxSectors} {
		d := made(t, n)
		d.Arm(1)
		d.Fail(1)
		want := look(d)
		for _, i := range places(n) {
			if b, e := d.Read(i); b != (api.Block{}) || e != api.ErrArg {
				t.Fatalf("Read(%d) of %d: %v, error %d", i, n, b, e)
			}
			expect(t, "Write", d.Write(i, block(9)), api.ErrArg)
		}
		same(t, "behind what was refused", look(d), want)
	}
}

// P2.2, P2.3: a dead disk refuses all but Crash, ahead of a place that there is none of, and nothing has changed.
func TestDeadDisk(t *testing.T) {
	d := gone(t)
	want := look(d)
	for _, i := range append(places(4), 0, 1, 2, 3) {
		if b, e := d.Read(i); b != (api.Block{}) || e != api.ErrDead {
			t.Fatalf("Read(%d): %v, error %d", i, b, e)
		}
		expect(t, "Write", d.Write(i, block(9)), api.ErrDead)
	}
	expect(t, "Sync", d.Sync(), api.ErrDead)
	for _, n := range []int{-1, 0, 1} {
		expect(t, "Arm", d.Arm(n), api.ErrDead)
		expect(t, "Fail", d.Fail(n), api.ErrDead)
	}
	same(t, "behind what was refused", look(d), want)
	expect(t, "Crash", d.Crash(nil), api.OK)
	if v := look(d); v.dead || v.armed != -1 || v.fails != -1 || v.ops != want.ops {
		t.Fatalf("behind a Crash: %v", v)
	}
}

// P2.3: n more Writes and Syncs are done, and at the one behind these the power goes, be it a Write or a Sync.
func TestArm(t *testing.T) {
	for n := range 5 {
		for _, last := range []string{"Write", "Sync"} {
			d := made(t, 3)
			d.Write(2, block(99))
			expect(t, "Arm", d.Arm(n), api.OK)
			for i := range n {
				says(t, d, 1, byte(i/2*2))
				if i%2 == 0 {
					expect(t, "Sync", d.Sync(), api.OK)
				} else {
					expect(t, "Write", d.Write(1, block(byte(i+1))), api.OK)
				}
				if d.Dead() {
					t.Fatalf("armed with %d, dead behind %d", n, i+1)
				}
			}
			if last == "Write" {
				expect(t, "the last Write", d.Write(0, block(8)), api.ErrDead)
			} else {
				expect(t, "the last Sync", d.Sync(), api.ErrDead)
			}
			if !d.Dead() {
				t.Fatalf("armed with %d: not dead", n)
			}
		}
	}
}

// P2.3, Words: the block of the Write at which the power goes stands in the cache, over an earlier one, too.
func TestPowerGoesAtWrite(t *testing.T) {
	for _, keep := range []bool{true, false} {
		d := made(t, 2)
		d.Write(0, block(1))
		d.Sync()
		d.Write(0, block(2))
		d.Arm(0)
		expect(t, "Write", d.Write(0, block(3)), api.ErrDead)
		pending(t, d, 0)
		expect(t, "Crash", d.Crash([]bool{keep}), api.OK)
		if keep {
			says(t, d, 0, 3)
		} else {
			says(t, d, 0, 1)
		}
	}
}

// P2.3, Words: the Sync at which the power goes settles nothing.
func TestPowerGoesAtSync(t *testing.T) {
	for _, keep := range []bool{true, false} {
		d := made(t, 3)
		d.Write(0, block(1))
		d.Write(2, block(2))
		d.Arm(0)
		expect(t, "Sync", d.Sync(), api.ErrDead)
		pending(t, d, 0, 2)
		expect(t, "Crash", d.Crash([]bool{false, keep}), api.OK)
		says(t, d, 0, 0)
		if keep {
			says(t, d, 2, 2)
		} else {
			says(t, d, 2, 0)
		}
	}
}

// P2.3: Reads, and what is refused, do not bring the power's end nearer.
func TestArmCountsNoReads(t *testing.T) {
	d := made(t, 2)
	d.Arm(1)
	for range 5 {
		says(t, d, 1, 0)
		expect(t, "Write", d.Write(2, block(1)), api.ErrArg)
	}
	expect(t, "Write", d.Write(1, block(1)), api.OK)
	says(t, d, 1, 1)
	expect(t, "Write", d.Write(1, block(2)), api.ErrDead)
}

// P2.3: what it was armed or set to fail with last counts; below 0 it is neither.
func TestArmAndFailAgain(t *testing.T) {
	for _, first := range []int{0, 1, 3, math.MaxInt, -1} {
		for _, then := range []int{0, 1, 2, reach - 1, -1, -2, math.MinInt} {
			d := made(t, 1)
			d.Arm(first)
			d.Fail(first)
			d.Arm(then)
			v := look(d)
			if v.armed != max(then, -1) {
				t.Fatalf("Arm(%d), Arm(%d): armed with %d", first, then, v.armed)
			}
			d = made(t, 1)
			d.Arm(first)
			d.Fail(first)
			d.Fail(then)
			if v := look(d); v.fails != max(then, -1) {
				t.Fatalf("Fail(%d), Fail(%d): set to fail with %d", first, then, v.fails)
			}
		}
	}
	d := made(t, 1)
	expect(t, "Arm", d.Arm(math.MaxInt), api.OK)
	expect(t, "Fail", d.Fail(math.MaxInt), api.OK)
	for range 20 {
		expect(t, "Sync", d.Sync(), api.OK)
	}
}

// P2.3: what it is armed with and what it is set to fail with are two things.
func TestArmAndFailApart(t *testing.T) {
	d := made(t, 1)
	for _, q := range []struct {
		name         string
		set          func() api.Errno
		armed, fails int
	}{
		{"Fail(2)", func() api.Errno { return d.Fail(2) }, -1, 2},
		{"Arm(3)", func() api.Errno { return d.Arm(3) }, 3, 2},
		{"Fail(4)", func() api.Errno { return d.Fail(4) }, 3, 4},
		{"Arm(-1)", func() api.Errno { return d.Arm(-1) }, -1, 4},
		{"Arm(1)", func() api.Errno { return d.Arm(1) }, 1, 4},
		{"Fail(-1)", func() api.Errno { return d.Fail(-1) }, 1, -1},
	} {
		expect(t, q.name, q.set(), api.OK)
		if v := look(d); v.armed != q.armed || v.fails != q.fails {
			t.Fatalf("behind %s: armed with %d, set to fail with %d", q.name, v.armed, v.fails)
		}
	}
}

// P2.3: n more operations are done, of whichever kind; the one behind these fails, and none later.
func TestFail(t *testing.T) {
	for n := range 5 {
		for last := range 3 {
			d := made(t, 2)
			d.Write(0, block(9))
			expect(t, "Fail", d.Fail(n), api.OK)
			for i := range n {
				operation(t, d, i, api.OK)
			}
			before := look(d)
			operation(t, d, last, api.ErrIo)
			before.ops++
			before.fails = -1
			same(t, "behind the one that failed", look(d), before)
			for i := range 6 {
				operation(t, d, i, api.OK)
			}
		}
	}
}

// operation does one of the three kinds.
func operation(t *testing.T, d *disk.Disk, kind int, want api.Errno) {
	t.Helper()
	switch kind % 3 {
	case 0:
		b, e := d.Read(0)
		expect(t, "Read", e, want)
		if (e == api.OK) != (b == block(9)) || e != api.OK && b != (api.Block{}) {
			t.Fatalf("Read: %v, error %d", b, e)
		}
	case 1:
		expect(t, "Write", d.Write(1, block(byte(d.Ops()+1))), want)
	case 2:
		expect(t, "Sync", d.Sync(), want)
	}
}

// P2.3: what is refused does not bring the failure nearer.
func TestFailCountsNothingRefused(t *testing.T) {
	d := made(t, 2)
	d.Fail(1)
	for _, i := range places(2) {
		d.Read(i)
		d.Write(i, block(1))
	}
	says(t, d, 0, 0)
	d.Read(2)
	expect(t, "Sync", d.Sync(), api.ErrIo)
}

// P2.3, Words: if the power goes at the operation that would fail, it goes.
func TestPowerAndFailureAtOnce(t *testing.T) {
	for n := range 3 {
		d := made(t, 2)
		d.Write(0, block(1))
		d.Arm(n)
		d.Fail(n)
		for range n {
			expect(t, "Write", d.Write(0, block(2)), api.OK)
		}
		ops := d.Ops()
		expect(t, "Write", d.Write(1, block(3)), api.ErrDead)
		if !d.Dead() || d.Ops() != ops+1 {
			t.Fatalf("dead: %t, %d operations", d.Dead(), d.Ops())
		}
		pending(t, d, 0, 1)
		d.Crash(all(2))
		says(t, d, 1, 3)
	}
	d := made(t, 2)
	d.Write(0, block(1))
	d.Arm(0)
	d.Fail(0)
	expect(t, "Sync", d.Sync(), api.ErrDead)
	pending(t, d, 0)
}

// P2.3, Words: what fails is not done, so as many Writes and Syncs as it is armed with are done besides.
func TestFailedAreNotDone(t *testing.T) {
	d := made(t, 2)
	d.Arm(1)
	for range 3 {
		d.Fail(0)
		expect(t, "Write", d.Write(0, block(1)), api.ErrIo)
		d.Fail(0)
		expect(t, "Sync", d.Sync(), api.ErrIo)
	}
	expect(t, "Write", d.Write(0, block(2)), api.OK)
	expect(t, "Sync", d.Sync(), api.ErrDead)
}

// P2.3: a Read fails where the power would go at a Write, and the disk is armed as it was.
func TestReadFailsOfAnArmedDisk(t *testing.T) {
	d := made(t, 1)
	d.Arm(0)
	d.Fail(0)
	if b, e := d.Read(0); b != (api.Block{}) || e != api.ErrIo || d.Dead() {
		t.Fatalf("Read: %v, error %d, dead: %t", b, e, d.Dead())
	}
	expect(t, "Sync", d.Sync(), api.ErrDead)
}

// P2.4: of three that are pending those are settled whose part of keep is true.
func TestCrash(t *testing.T) {
	for _, q := range []struct {
		keep []bool
		want [5]byte
	}{
		{nil, [5]byte{1, 1, 1, 1, 1}},
		{[]bool{}, [5]byte{1, 1, 1, 1, 1}},
		{[]bool{true}, [5]byte{2, 1, 1, 1, 1}},
		{[]bool{false}, [5]byte{1, 1, 1, 1, 1}},
		{[]bool{false, true}, [5]byte{1, 1, 3, 1, 1}},
		{[]bool{true, false}, [5]byte{2, 1, 1, 1, 1}},
		{[]bool{false, false, true}, [5]byte{1, 1, 1, 1, 4}},
		{[]bool{true, true, true}, [5]byte{2, 1, 3, 1, 4}},
		{[]bool{false, true, true, true, true}, [5]byte{1, 1, 3, 1, 4}},
		{[]bool{false, false, false, true, true, true, true}, [5]byte{1, 1, 1, 1, 1}},
	} {
		d := made(t, 5)
		for i := range 5 {
			d.Write(i, block(1))
		}
		d.Sync()
		d.Write(4, block(4))
		d.Write(0, block(2))
		d.Write(2, block(3))
		ops, keep := d.Ops(), slices.Clone(q.keep)
		expect(t, "Crash", d.Crash(q.keep), api.OK)
		if d.Ops() != ops || !slices.Equal(keep, q.keep) {
			t.Fatalf("%d operations behind %d; keep %v, which was %v", d.Ops(), ops, q.keep, keep)
		}
		pending(t, d)
		for i, x := range q.want {
			says(t, d, i, x)
		}
	}
}

// P2.4: the power comes back, whether it was gone or not, and the disk is neither armed nor set to fail.
func TestCrashEndsAll(t *testing.T) {
	for _, make := range []func(t *testing.T) *disk.Disk{busy, gone} {
		for _, keep := range [][]bool{nil, {true}, all(4)} {
			d := make(t)
			ops := d.Ops()
			for range 2 {
				expect(t, "Crash", d.Crash(keep), api.OK)
				if v := look(d); v.dead || v.armed != -1 || v.fails != -1 || v.ops != ops || len(v.pending) != 0 {
					t.Fatalf("behind a Crash: %v", v)
				}
			}
			expect(t, "Arm", d.Arm(0), api.OK)
			expect(t, "Sync", d.Sync(), api.ErrDead)
		}
	}
}

// P2.4: with nothing pending a Crash that names sectors changes none.
func TestCrashOfNothing(t *testing.T) {
	d := made(t, 2)
	d.Write(0, block(1))
	d.Sync()
	want := look(d)
	for _, keep := range [][]bool{nil, {true}, {false}, all(9)} {
		expect(t, "Crash", d.Crash(keep), api.OK)
		same(t, "behind a Crash", look(d), want)
	}
}

// P2.4, P2.5: many sectors are pending, and keep names them by rising places, in whichever order they were written.
func TestCrashOfMany(t *testing.T) {
	d := made(t, api.MaxSectors)
	var want []int
	var keep []bool
	for i := range api.MaxSectors {
		if at := i * 5 % api.MaxSectors; at%3 != 0 {
			d.Write(at, block(7))
		}
		if i%3 != 0 {
			want = append(want, i)
			keep = append(keep, i%2 == 0)
		}
	}
	pending(t, d, want...)
	expect(t, "Crash", d.Crash(keep), api.OK)
	for i := range api.MaxSectors {
		if i%3 != 0 && i%2 == 0 {
			says(t, d, i, 7)
		} else {
			says(t, d, i, 0)
		}
	}
}

// P2.5: each block that is in the cache is pending, be it the one that the sector holds, too; and what is told is new memory.
func TestPending(t *testing.T) {
	d := made(t, 9)
	for _, i := range []int{8, 0, 4, 0, 7, 4, 8} {
		d.Write(i, block(byte(i)))
	}
	pending(t, d, 0, 4, 7, 8)
	got := d.Pending()
	clear(got)
	_ = append(got[:1], 5, 5, 5)
	pending(t, d, 0, 4, 7, 8)
	says(t, d, 7, 7)
	pending(t, d, 0, 4, 7, 8)
	d.Sync()
	pending(t, d)
	d.Write(3, block(0))
	pending(t, d, 3)
	d.Write(0, block(0))
	pending(t, d, 0, 3)
	d.Crash([]bool{true})
	pending(t, d)
}

// P2.5: what is not refused is counted, the one that fails and the one at which the power goes, too; nothing else is.
func TestOps(t *testing.T) {
	d := made(t, 2)
	for _, q := range []struct {
		name string
		do   func()
		want int
	}{
		{"Read", func() { d.Read(0) }, 1},
		{"Write", func() { d.Write(1, block(1)) }, 2},
		{"Sync", func() { d.Sync() }, 3},
		{"Sync of nothing", func() { d.Sync() }, 4},
		{"Read of no sector", func() { d.Read(2) }, 4},
		{"Write of no sector", func() { d.Write(-1, block(1)) }, 4},
		{"what tells", func() { d.Len(); d.Pending(); d.Ops(); d.Dead(); d.Copy() }, 4},
		{"Fail", func() { d.Fail(0) }, 4},
		{"a Read that fails", func() { d.Read(0) }, 5},
		{"a Write that fails", func() { d.Fail(0); d.Write(0, block(1)) }, 6},
		{"a Sync that fails", func() { d.Fail(0); d.Sync() }, 7},
		{"Arm", func() { d.Arm(0) }, 7},
		{"the Write at which the power goes", func() { d.Write(0, block(1)) }, 8},
		{"what a dead disk refuses", func() { d.Read(0); d.Write(0, block(1)); d.Sync(); d.Arm(1); d.Fail(1) }, 8},
		{"Crash", func() { d.Crash(nil) }, 8},
		{"the Sync at which the power goes", func() { d.Arm(0); d.Sync() }, 9},
		{"Crash", func() { d.Crash(all(2)) }, 9},
		{"Write", func() { d.Write(0, block(1)) }, 10},
	} {
		q.do()
		if got := d.Ops(); got != q.want {
			t.Fatalf("behind %s: %d operations, want %d", q.name, got, q.want)
		}
	}
}

// P2.5: Dead tells of the power alone; a dead disk still tells all else.
func TestDead(t *testing.T) {
	d := busy(t)
	d.Fail(0)
	if d.Sync(); d.Dead() {
		t.Fatal("dead behind a failure")
	}
	d.Arm(0)
	if d.Read(0); d.Dead() {
		t.Fatal("dead ahead of a Write")
	}
	d.Write(0, block(6))
	if !d.Dead() || d.Len() != 4 || d.Ops() != 8 {
		t.Fatalf("dead: %t, %d sectors, %d operations", d.Dead(), d.Len(), d.Ops())
	}
	pending(t, d, 0, 1, 3)
	if d.Crash(nil); d.Dead() {
		t.Fatal("dead behind a Crash")
	}
}

// R4: of nil each call that answers an Errno answers ErrNil, whatever else is wrong; others nothing.
func TestNilDisk(t *testing.T) {
	var d *disk.Disk
	for _, i := range []int{0, 1, -1, math.MaxInt, math.MinInt} {
		if b, e := d.Read(i); b != (api.Block{}) || e != api.ErrNil {
			t.Errorf("Read(%d): %v, error %d", i, b, e)
		}
		expect(t, "Write", d.Write(i, block(1)), api.ErrNil)
		expect(t, "Arm", d.Arm(i), api.ErrNil)
		expect(t, "Fail", d.Fail(i), api.ErrNil)
	}
	expect(t, "Sync", d.Sync(), api.ErrNil)
	expect(t, "Crash", d.Crash(nil), api.ErrNil)
	expect(t, "Crash", d.Crash(all(3)), api.ErrNil)
	if d.Len() != 0 || len(d.Pending()) != 0 || d.Ops() != 0 || d.Dead() || d.Copy() != nil {
		t.Errorf("%d sectors, %v pending, %d operations, dead: %t, %v", d.Len(), d.Pending(), d.Ops(), d.Dead(), d.Copy())
	}
}
