package locks_test

import (
	"fmt"
	"math"
	"slices"
	"testing"

	"bursary/api"
	"bursary/locks"
)

// The modes, as short as the chapter writes them.
const (
	none = api.ModeNone
	is   = api.ModeIS
	ix   = api.ModeIX
	s    = api.ModeS
	six  = api.ModeSIX
	x    = api.ModeX
	e    = api.ModeE
)

// had, granted and waits are what an asking comes to.
const (
	had     = api.LockHad
	granted = api.LockGranted
	waits   = api.LockWaits
)

// k is the key of the chapter's examples, and tab its table.
var (
	k   = key(0, 7)
	tab = table(0)
)

// table is short for a table.
func table(i int) api.Res {
	return api.Res{Table: i}
}

// key is short for a key.
func key(i int, id uint16) api.Res {
	return api.Res{Table: i, IsKey: true, Id: id}
}

// holds is holders: a transaction and a mode, one behind the other.
func holds(pairs ...int) []api.Hold {
	var out []api.Hold
	for p := range slices.Chunk(pairs, 2) {
		out = append(out, api.Hold{Txn: p[0], Mode: p[1]})
	}
	return out
}

// wants is waiters: a transaction, the mode that it wants, and that which it holds, one behind the other.
func wants(triples ...int) []api.Wait {
	var out []api.Wait
	for p := range slices.Chunk(triples, 3) {
		out = append(out, api.Wait{Txn: p[0], Mode: p[1], Held: p[2]})
	}
	return out
}

// queue is short for a queue.
func queue(r api.Res, holders []api.Hold, waiters []api.Wait) api.Queue {
	return api.Queue{Res: r, Holders: holders, Waiters: waiters}
}

// all is locks of these queues.
func all(qs ...api.Queue) api.Locks {
	return api.Locks{Queues: qs}
}

// one is locks of a single queue.
func one(r api.Res, holders []api.Hold, waiters ...int) api.Locks {
	return all(queue(r, holders, wants(waiters...)))
}

// many is locks of n keys, each held by the transaction 1, in two tables; table 2 is free.
func many(n int) api.Locks {
	var l api.Locks
	for i := range n {
		l.Queues = append(l.Queues, queue(key(2*i/max(n, 2), uint16(i)), holds(1, s), nil))
	}
	return l
}

// noTxns are numbers that are no transaction's: right beside those that are, at the ends of int, and such that cut to 32 bits would be one.
var noTxns = []int{0, -1, -2, -api.MaxTxn, api.MaxTxn + 1, 2 * api.MaxTxn, math.MaxInt32, math.MinInt32, 1<<32 + 1, -1<<32 + 1, math.MaxInt, math.MinInt}

// noModes are numbers that are no mode, some of which cut to fewer bits would be one.
var noModes = []int{-1, -3, 7, 8, 11, 253, 256 + s, 256 + x, 1<<32 + s, -1<<32 + s, math.MaxInt, math.MinInt}

// noRes are nothing that is locked.
func noRes() []api.Res {
	out := []api.Res{{Id: 1}, {Id: math.MaxUint16}, {Table: api.MaxTables - 1, Id: 7}}
	for _, i := range []int{-1, api.MaxTables, api.MaxTables + 1, -api.MaxTables, 256, 1 << 32, -1 << 32, math.MaxInt, math.MinInt} {
		out = append(out, table(i), key(i, 0), key(i, 7))
	}
	return out
}

// tableModes are the modes in which a table is locked, keyModes those of a key.
var (
	tableModes = []int{is, ix, s, six, x}
	keyModes   = []int{s, e, x}
)

// modesOf are the modes of something.
func modesOf(r api.Res) []int {
	if r.IsKey {
		return keyModes
	}
	return tableModes
}

// goodLocks are some that may be, of many shapes.
func goodLocks() map[string]api.Locks {
	return map[string]api.Locks{
		"none":                       {},
		"no queues":                  {Queues: []api.Queue{}},
		"a key":                      one(k, holds(1, x)),
		"the transaction 11":         one(k, holds(11, s, 12, s), 11, x, s, 13, e, none),
		"the least and the greatest": one(k, holds(1, s, api.MaxTxn, s), api.MaxTxn, x, s, api.MaxTxn-1, x, none),
		"the ends of keys":           all(queue(table(0), holds(1, is), nil), queue(key(0, 0), holds(1, s), nil), queue(key(0, math.MaxUint16), holds(1, x), nil), queue(table(2), holds(2, x), nil), queue(key(2, math.MaxUint16), holds(2, e), nil)),
		"many adders":                one(k, holds(1, e, 2, e, 3, e, 4, e), 2, x, e, 1, x, e, 5, s, none, 6, e, none),
		"readers of a table":         one(tab, holds(1, is, 2, is, 3, s, 4, s, 5, is), 6, ix, none, 7, is, none),
		"one reads and changes":      one(tab, holds(1, six, 2, is, 3, is), 2, six, is, 3, ix, is, 4, x, none),
		"two change":                 one(table(2), holds(7, ix, 9, ix), 9, six, ix, 7, six, ix, 8, s, none, 1, is, none),
		"conversions alone":          one(k, holds(3, s, 5, s), 5, x, s, 3, x, s),
		"a waiter":                   one(k, holds(3, s), 5, x, none),
		"in several queues": all(
			queue(tab, holds(1, is, 2, ix, 3, is), wants(4, x, none)),
			queue(k, holds(1, s, 3, s), wants(3, x, s, 2, e, none)),
			queue(key(0, 8), holds(2, x), nil),
			queue(table(1), holds(2, ix, 4, ix), wants(1, s, none)),
			queue(key(1, 7), holds(2, e, 4, e), nil)),
		"as many queues as there may be": many(api.MaxQueues),
	}
}

// badLocks are some that may not be, each for one sentence of the chapter's words alone.
func badLocks() map[string]api.Locks {
	out := map[string]api.Locks{
		"a queue too many":                      many(api.MaxQueues + 1),
		"twice as many":                         many(2 * api.MaxQueues),
		"a queue twice":                         all(queue(k, holds(1, s), nil), queue(k, holds(1, s), nil)),
		"a table twice":                         all(queue(tab, holds(1, s), nil), queue(tab, holds(2, s), nil)),
		"a queue twice, others between":         all(queue(k, holds(1, s), nil), queue(key(1, 7), holds(1, s), nil), queue(k, holds(1, s), nil)),
		"keys out of order":                     all(queue(key(0, 8), holds(1, s), nil), queue(key(0, 7), holds(1, s), nil)),
		"tables out of order":                   all(queue(table(1), holds(1, s), nil), queue(table(0), holds(1, s), nil)),
		"a key ahead of its table":              all(queue(key(0, 0), holds(1, s), nil), queue(table(0), holds(1, s), nil)),
		"a key ahead of one of a lesser table":  all(queue(key(1, 0), holds(1, s), nil), queue(key(0, 9), holds(1, s), nil)),
		"the last two out of order":             all(queue(tab, holds(1, s), nil), queue(key(0, 9), holds(1, s), nil), queue(key(0, 8), holds(1, s), nil)),
		"a queue without holders":               one(k, nil),
		"one without holders among others":      all(queue(tab, holds(1, s), nil), queue(k, []api.Hold{}, nil), queue(key(1, 1), holds(1, s), nil)),
		"one without holders, with a waiter":    one(k, nil, 1, x, none),
		"holders out of order":                  one(k, holds(2, s, 1, s)),
		"holders out of order at the end":       one(k, holds(1, e, 3, e, 2, e)),
		"a holder twice":                        one(k, holds(1, s, 1, s)),
		"a holder twice, in unlike modes":       one(tab, holds(1, s, 1, is)),
		"holders apart: S and E":                one(k, holds(1, s, 2, e)),
		"holders apart: two X":                  one(k, holds(1, x, 2, x)),
		"holders apart: S and IX":               one(tab, holds(1, s, 2, ix)),
		"holders apart: two SIX":                one(tab, holds(1, six, 2, six)),
		"holders apart: the first and the last": one(tab, holds(1, ix, 2, is, 3, is, 4, s)),
		"holders apart: the last two":           one(tab, holds(1, is, 2, is, 3, ix, 4, six)),
		"a waiter twice":                        one(k, holds(1, s), 2, x, none, 2, x, none),
		"a waiter twice, apart":                 one(k, holds(1, s), 2, x, none, 3, s, none, 2, e, none),
		"a conversion twice":                    one(k, holds(1, s, 2, s), 2, x, s, 2, x, s),
		"who waits in two queues":               all(queue(tab, holds(1, x), wants(2, is, none)), queue(k, holds(1, s), wants(2, x, none))),
		"who waits in two queues, behind":       all(queue(k, holds(1, x), wants(3, s, none, 2, s, none)), queue(key(2, 7), holds(1, s, 2, s), wants(2, x, s))),
		"Held of one that holds nothing":        one(k, holds(1, s), 2, x, s),
		"none Held of one that holds":           one(k, holds(1, s, 2, s), 2, x, none),
		"another Held than is held":             one(k, holds(1, e, 2, e), 2, x, s),
		"another Held of a table":               one(tab, holds(1, ix, 2, is), 2, x, ix),
		"a Held that is no mode":                one(k, holds(1, s, 2, s), 2, x, -1),
		"a Held that is the Mode":               one(k, holds(1, s, 2, s), 2, x, s, 1, s, s),
		"a Held that is more than the Mode":     one(tab, holds(1, ix, 2, ix), 2, x, ix, 1, is, ix),
		"a Mode that covers no Held of a key":   one(k, holds(1, s, 2, s), 2, e, s),
		"a Mode that covers no Held of a table": one(tab, holds(1, ix, 2, ix), 2, s, ix),
		"a conversion behind another waiter":    one(k, holds(1, s, 2, s), 3, x, none, 1, x, s),
		"a conversion behind others at the end": one(tab, holds(1, is, 2, six), 1, six, is, 3, s, none, 2, x, six),
		"a first waiter that goes":              one(k, holds(1, s), 2, s, none),
		"a first waiter that goes: E":           one(k, holds(1, e, 3, e), 2, e, none, 4, s, none),
		"a first conversion that goes":          one(k, holds(1, s), 1, x, s),
		"a first conversion of a table":         one(tab, holds(1, is, 2, is), 2, six, is),
		"the last of several queues":            all(queue(tab, holds(1, x), nil), queue(k, holds(1, x), nil), queue(key(1, 7), holds(1, s), wants(2, s, none))),
		"the first of several queues":           all(queue(tab, holds(1, is, 2, x), nil), queue(k, holds(1, x), nil)),
	}
	addNoRes(out)
	addNoTxns(out)
	addNoModes(out)
	return out
}

// addNoRes adds locks of which one queue is of nothing that is locked; it stands where its Table says.
func addNoRes(out map[string]api.Locks) {
	for _, r := range noRes() {
		q := queue(r, holds(1, s), nil)
		out[fmt.Sprint("of ", r)] = all(q)
		if r.Table < 0 {
			out[fmt.Sprint("of ", r, " ahead")] = all(q, queue(k, holds(1, s), nil))
		} else if r.Table >= api.MaxTables {
			out[fmt.Sprint("of ", r, " behind")] = all(queue(k, holds(1, s), nil), q)
		}
	}
}

// addNoTxns adds locks in which a number that is no transaction's holds, or waits.
func addNoTxns(out map[string]api.Locks) {
	for _, no := range noTxns {
		pair := holds(no, s, 5, s)
		if no > 5 {
			pair = holds(5, s, no, s)
		}
		out[fmt.Sprint("a holder ", no)] = one(k, holds(no, s))
		out[fmt.Sprint("a holder ", no, " beside another one")] = one(k, pair)
		out[fmt.Sprint("a waiter ", no)] = one(k, holds(5, s), no, x, none)
		out[fmt.Sprint("a waiter ", no, " behind another one")] = one(k, holds(5, s), 6, x, none, no, s, none)
	}
}

// addNoModes adds locks in which somebody holds, or wants, what is no mode of the table, or of the key.
func addNoModes(out map[string]api.Locks) {
	ofKeys := append([]int{none, is, ix, six}, noModes...)
	ofTables := append([]int{none, e}, noModes...)
	for _, m := range ofKeys {
		out[fmt.Sprint("a key held in ", m)] = one(k, holds(1, m))
		out[fmt.Sprint("a key wanted in ", m)] = one(k, holds(1, x), 2, m, none)
		out[fmt.Sprint("a key wanted behind in ", m)] = one(k, holds(1, x), 3, s, none, 2, m, none)
	}
	for _, m := range ofTables {
		out[fmt.Sprint("a table held in ", m)] = one(tab, holds(1, m))
		out[fmt.Sprint("a table wanted in ", m)] = one(tab, holds(1, x), 2, m, none)
		out[fmt.Sprint("a table wanted behind in ", m)] = one(tab, holds(1, x), 3, s, none, 2, m, none)
	}
}

// margin is how many parts stand in the room behind the end of each roomy list.
const margin = 2

// The marks that stand in that room.
var (
	markHold  = api.Hold{Txn: 77, Mode: 77}
	markWait  = api.Wait{Txn: 78, Mode: 78, Held: 78}
	markQueue = api.Queue{Res: key(79, 79), Holders: []api.Hold{markHold}, Waiters: []api.Wait{markWait}}
)

// roomy is a copy of the locks whose lists have room behind their ends, which holds marks.
func roomy(l api.Locks) api.Locks {
	var out []api.Queue
	for _, q := range l.Queues {
		holders := slices.Concat(q.Holders, slices.Repeat([]api.Hold{markHold}, margin))
		waiters := slices.Concat(q.Waiters, slices.Repeat([]api.Wait{markWait}, margin))
		out = append(out, queue(q.Res, holders[:len(q.Holders)], waiters[:len(q.Waiters)]))
	}
	n := len(out)
	out = append(out, slices.Repeat([]api.Queue{markQueue}, margin)...)
	return all(out[:n]...)
}

// checkUntouched asks whether roomy locks, and the room behind their lists, are as they were made.
func checkUntouched(t *testing.T, name string, l, want api.Locks) {
	t.Helper()
	if !same(l, want) {
		t.Fatalf("%s: %v is left of %v", name, l, want)
	}
	for _, q := range l.Queues {
		hs, ws := q.Holders[len(q.Holders):][:margin], q.Waiters[len(q.Waiters):][:margin]
		if !slices.Equal(hs, slices.Repeat([]api.Hold{markHold}, margin)) || !slices.Equal(ws, slices.Repeat([]api.Wait{markWait}, margin)) {
			t.Fatalf("%s: in the room behind %v: %v, %v", name, q, hs, ws)
		}
	}
	room := all(l.Queues[len(l.Queues):][:margin]...)
	if !same(room, all(slices.Repeat([]api.Queue{markQueue}, margin)...)) {
		t.Fatalf("%s: in the room behind all queues: %v", name, room)
	}
}

// checkNew asks whether answered locks share no memory with others, and no two of their lists any: each list is changed, with the room behind its end, and all others stay.
func checkNew(t *testing.T, name string, l api.Locks, others ...api.Locks) {
	t.Helper()
	var before []string
	for _, other := range others {
		before = append(before, fmt.Sprint(other))
	}
	for i := range l.Queues {
		hs, ws := l.Queues[i].Holders, l.Queues[i].Waiters
		wholeHs, wholeWs := hs[:cap(hs)], ws[:cap(ws)]
		for at := range wholeHs {
			wholeHs[at] = api.Hold{Txn: -i - 1, Mode: -1}
		}
		for at := range wholeWs {
			wholeWs[at] = api.Wait{Txn: -i - 1, Mode: -2, Held: -2}
		}
	}
	for i, q := range l.Queues {
		for _, h := range q.Holders[:cap(q.Holders)] {
			if h != (api.Hold{Txn: -i - 1, Mode: -1}) {
				t.Fatalf("%s: lists of the answer share memory", name)
			}
		}
	}
	whole := l.Queues[:cap(l.Queues)]
	for i := range whole {
		whole[i] = api.Queue{Res: key(99, 99)}
	}
	for i, other := range others {
		if fmt.Sprint(other) != before[i] {
			t.Fatalf("%s: what was handed in has changed with the answer", name)
		}
	}
}

// expect holds an error against the one that is wanted.
func expect(t *testing.T, name string, got, want api.Errno) {
	t.Helper()
	if got != want {
		t.Fatalf("%s: error %d, want %d", name, got, want)
	}
}

// same says whether both are the same, list by list; nil and empty ones are.
func same(a, b api.Locks) bool {
	return slices.EqualFunc(a.Queues, b.Queues, func(p, q api.Queue) bool {
		return p.Res == q.Res && slices.Equal(p.Holders, q.Holders) && slices.Equal(p.Waiters, q.Waiters)
	})
}

// checkLocks holds locks against those that are wanted, and asks whether they may be.
func checkLocks(t *testing.T, name string, got, want api.Locks) {
	t.Helper()
	if !same(got, want) {
		t.Fatalf("%s: %v, want %v", name, got, want)
	}
	expect(t, name+": Check", locks.Check(got), api.OK)
}

// ask is the locks behind an Ask, whose answer is held against the one that is wanted.
func ask(t *testing.T, l api.Locks, txn int, r api.Res, m int, want int) api.Locks {
	t.Helper()
	in := roomy(l)
	out, got, err := locks.Ask(in, txn, r, m)
	name := fmt.Sprintf("%v: Ask(%d, %v, %d)", l, txn, r, m)
	expect(t, name, err, api.OK)
	if got != want {
		t.Fatalf("%s: %d, want %d", name, got, want)
	}
	checkUntouched(t, name, in, l)
	return out
}

// refuse asks Ask for an error, and nothing beside it.
func refuse(t *testing.T, l api.Locks, txn int, r api.Res, m int, want api.Errno) {
	t.Helper()
	in := roomy(l)
	out, got, err := locks.Ask(in, txn, r, m)
	name := fmt.Sprintf("%v: Ask(%d, %v, %d)", l, txn, r, m)
	expect(t, name, err, want)
	if got != 0 || len(out.Queues) != 0 {
		t.Fatalf("%s: error %d, and %d, %v", name, err, got, out)
	}
	checkUntouched(t, name, in, l)
}

// leaver is Release or Leave.
type leaver func(l api.Locks, txn int) (api.Locks, []int, api.Errno)

// leave is the locks behind a Release, or a Leave; who was granted so is held against what is wanted.
func leave(t *testing.T, call leaver, l api.Locks, txn int, want ...int) api.Locks {
	t.Helper()
	in := roomy(l)
	out, got, err := call(in, txn)
	name := fmt.Sprintf("%v: without %d", l, txn)
	expect(t, name, err, api.OK)
	if !slices.Equal(got, want) {
		t.Fatalf("%s: %v were granted, want %v", name, got, want)
	}
	checkUntouched(t, name, in, l)
	return out
}

// noLeave asks Release, or Leave, for an error, and nothing beside it.
func noLeave(t *testing.T, call leaver, l api.Locks, txn int, want api.Errno) {
	t.Helper()
	in := roomy(l)
	out, got, err := call(in, txn)
	name := fmt.Sprintf("%v: without %d", l, txn)
	expect(t, name, err, want)
	if len(got) != 0 || len(out.Queues) != 0 {
		t.Fatalf("%s: error %d, and %v, %v", name, err, got, out)
	}
	checkUntouched(t, name, in, l)
}

// checkWaits holds for what a transaction waits against what is wanted.
func checkWaits(t *testing.T, l api.Locks, txn int, r api.Res, m int, there bool) {
	t.Helper()
	in := roomy(l)
	gotRes, gotMode, got := locks.Waits(in, txn)
	if gotRes != r || gotMode != m || got != there {
		t.Fatalf("%v: Waits(%d): %v, %d, %t, want %v, %d, %t", l, txn, gotRes, gotMode, got, r, m, there)
	}
	checkUntouched(t, "Waits", in, l)
}

// checkHolds holds all that a transaction holds against what is wanted.
func checkHolds(t *testing.T, l api.Locks, txn int, want ...api.Lock) {
	t.Helper()
	in := roomy(l)
	if got := locks.Holds(in, txn); !slices.Equal(got, want) {
		t.Fatalf("%v: Holds(%d): %v, want %v", l, txn, got, want)
	}
	checkUntouched(t, "Holds", in, l)
}

// checkMode holds the mode in which a transaction holds something against what is wanted.
func checkMode(t *testing.T, l api.Locks, txn int, r api.Res, want int) {
	t.Helper()
	in := roomy(l)
	if got := locks.Mode(in, txn, r); got != want {
		t.Fatalf("%v: Mode(%d, %v): %d, want %d", l, txn, r, got, want)
	}
	checkUntouched(t, "Mode", in, l)
}

// checkBlockers holds a transaction's blockers against what is wanted.
func checkBlockers(t *testing.T, l api.Locks, txn int, want ...int) {
	t.Helper()
	in := roomy(l)
	if got := locks.Blockers(in, txn); !slices.Equal(got, want) {
		t.Fatalf("%v: Blockers(%d): %v, want %v", l, txn, got, want)
	}
	checkUntouched(t, "Blockers", in, l)
}
