package escrow_test

import (
	"slices"
	"testing"

	"bursary/api"
	"bursary/escrow"
)

// story is what a key's row would have without all shares, and every sum that each transaction ever had there, the last one now.
type story struct {
	value int64
	sums  map[int][]int64
}

// model is the stories of all pending keys.
type model map[api.Key]*story

// pendingOf is the pending key that a story comes to.
func (s story) pendingOf(k api.Key) api.Pending {
	out := pending(k, s.value)
	for txn, sums := range s.sums {
		had := append(slices.Clone(sums), 0)
		out.Shares = append(out.Shares, share(txn, slices.Min(had), sums[len(sums)-1], slices.Max(had)))
	}
	slices.SortFunc(out.Shares, func(a, b api.Share) int { return a.Txn - b.Txn })
	return out
}

// with is a story with one more sum of a transaction.
func (s story) with(txn int, sum int64) story {
	out := story{value: s.value, sums: map[int][]int64{}}
	for other, sums := range s.sums {
		out.sums[other] = slices.Clone(sums)
	}
	out.sums[txn] = append(out.sums[txn], sum)
	return out
}

// now is a transaction's sum, and whether it has a share.
func (s story) now(txn int) (int64, bool) {
	sums, has := s.sums[txn]
	if !has {
		return 0, false
	}
	return sums[len(sums)-1], true
}

// escrow is what the stories come to.
func (m model) escrow() api.Escrow {
	var out api.Escrow
	for k, s := range m {
		out.Rows = append(out.Rows, s.pendingOf(k))
	}
	slices.SortFunc(out.Rows, func(a, b api.Pending) int {
		return a.Key.Table<<16 + int(a.Key.Id) - b.Key.Table<<16 - int(b.Key.Id)
	})
	return out
}

// add is what an Add is to answer, of small numbers; if it is let be, the story goes on.
func (m model) add(k api.Key, a api.Adding) api.Errno {
	s, there := m[k]
	if !there && len(m) == api.MaxPending {
		return api.ErrFull
	}
	if !there {
		s = &story{value: a.Now}
	}
	sum, has := s.now(a.Txn)
	if !has && len(s.sums) == api.MaxShares {
		return api.ErrFull
	}
	next := s.with(a.Txn, sum+a.By)
	if leavesByWords(choices(next.pendingOf(k)), a.Bounds) {
		return api.ErrBound
	}
	m[k] = &next
	return api.OK
}

// back is what a Back is to answer; if it is let be, the story goes on.
func (m model) back(k api.Key, txn int, d int64) api.Errno {
	s, there := m[k]
	if !there {
		return api.ErrNone
	}
	sum, has := s.now(txn)
	if !has {
		return api.ErrNone
	}
	if had := append(slices.Clone(s.sums[txn]), 0); sum-d < slices.Min(had) || sum-d > slices.Max(had) {
		return api.ErrArg
	}
	next := s.with(txn, sum-d)
	m[k] = &next
	return api.OK
}

// over ends a transaction's stories.
func (m model) over(txn int, commits bool) {
	for k, s := range m {
		if sum, has := s.now(txn); has && commits {
			s.value += sum
		}
		delete(s.sums, txn)
		if len(s.sums) == 0 {
			delete(m, k)
		}
	}
}

// game is an escrow beside its model, the value that each key's row has when nothing is pending there, and the bounds of all.
type game struct {
	t      *testing.T
	e      api.Escrow
	m      model
	values map[api.Key]int64
	bounds api.Bounds
	met    map[api.Errno]int
}

// newGame is a game of no pending keys, of these values.
func newGame(t *testing.T, values map[api.Key]int64, b api.Bounds) *game {
	return &game{t: t, m: model{}, values: values, bounds: b, met: map[api.Errno]int{}}
}

// answer holds what a call has answered against the model.
func (g *game) answer(name string, got api.Escrow, err, want api.Errno) {
	g.t.Helper()
	g.met[want]++
	if want != api.OK {
		checkRefused(g.t, name, got, err, want)
		return
	}
	checkAnswer(g.t, name, got, err, g.m.escrow())
	g.e = got
}

// add asks both for an Add; Now is what is known of the row, were it pending or not.
func (g *game) add(k api.Key, txn int, by int64) {
	g.t.Helper()
	a := adding(txn, by, g.values[k], g.bounds)
	got, err := escrow.Add(g.e, k, a)
	g.answer("Add", got, err, g.m.add(k, a))
}

// back asks both for a Back.
func (g *game) back(k api.Key, txn int, d int64) {
	g.t.Helper()
	got, err := escrow.Back(g.e, k, txn, d)
	g.answer("Back", got, err, g.m.back(k, txn, d))
}

// over asks both for an Over; the values of keys whose story ends so are kept.
func (g *game) over(txn int, commits bool) {
	g.t.Helper()
	for k, s := range g.m {
		if sum, has := s.now(txn); has && len(s.sums) == 1 {
			g.values[k] = s.value
			if commits {
				g.values[k] += sum
			}
		}
	}
	g.m.over(txn, commits)
	got, err := escrow.Over(g.e, txn, commits)
	g.answer("Over", got, err, api.OK)
}

// step asks for something by chance: of a few keys and transactions, numbers up to far.
func (g *game) step(d *dice, keys []api.Key, txns int, far int64) {
	g.t.Helper()
	k, txn := keys[d.throw(len(keys))], 1+d.throw(txns)
	switch n := d.throw(20); {
	case n < 13:
		g.add(k, txn, d.from(-far, far))
	case n < 18:
		g.back(k, txn, d.from(-far, far))
	default:
		g.over(txn, d.throw(2) > 0)
	}
}

// someKeys is n keys, of all tables.
func someKeys(n int) []api.Key {
	var out []api.Key
	for i := range n {
		out = append(out, key(i%api.MaxTables, uint16(7*i)))
	}
	return out
}

// valuesOf is a value of each key.
func valuesOf(keys []api.Key, value int64) map[api.Key]int64 {
	out := map[api.Key]int64{}
	for _, k := range keys {
		out[k] = value
	}
	return out
}

// P10.1 to P10.5: long rows of calls, of one key and of several, held against every sum that each transaction ever had.
func TestRowsOfCalls(t *testing.T) {
	for _, q := range []struct {
		keys, txns int
		far        int64
		b          api.Bounds
	}{{1, 2, 5, bounds}, {1, 4, 4, bounds}, {2, 3, 6, api.Bounds{Min: -6, Max: 6}}, {5, 10, 2, api.Bounds{Min: -3, Max: 12}}, {7, 9, 1, api.Bounds{Min: -4, Max: 14}}} {
		d, keys := dice(q.keys), someKeys(q.keys)
		g := newGame(t, valuesOf(keys, 4), q.b)
		for range 8000 {
			g.step(&d, keys, q.txns, q.far)
		}
		if g.met[api.OK] < 2000 || g.met[api.ErrBound] < 100 || g.met[api.ErrNone] < 50 {
			t.Fatalf("too few of one kind: %v", g.met)
		}
	}
}

// P10.4, P10.5: rows of calls that come to as many shares, and as many keys, as may be.
func TestRowsOfCallsTillFull(t *testing.T) {
	d, keys := dice(10), someKeys(api.MaxPending+5)
	g := newGame(t, valuesOf(keys, 4), api.Bounds{Min: -9, Max: 14})
	for range 400 {
		g.add(keys[d.throw(len(keys))], 1+d.throw(3), d.from(-1, 1))
	}
	for range 400 {
		g.step(&d, keys, 3, 1)
		g.add(keys[d.throw(len(keys))], 1+d.throw(3), 0)
	}
	for range 300 {
		g.add(keys[0], 1+d.throw(12), d.from(-1, 1))
		g.add(keys[1], 1+d.throw(12), 0)
	}
	if g.met[api.ErrFull] < 150 || g.met[api.OK] < 500 {
		t.Fatalf("too few of one kind: %v", g.met)
	}
}
