package locks_test

import (
	"slices"

	"bursary/api"
	"bursary/mode"
)

// model is locks as the chapter's words tell of them, without an order that is kept: who holds what, and who waits for it, first come first.
type model struct {
	holds map[api.Res]map[int]int
	waits map[api.Res][]api.Hold
}

// newModel is a model of nothing that is locked.
func newModel() *model {
	return &model{holds: map[api.Res]map[int]int{}, waits: map[api.Res][]api.Hold{}}
}

// modelOf is the model of locks that may be.
func modelOf(l api.Locks) *model {
	m := newModel()
	for _, q := range l.Queues {
		m.holds[q.Res] = map[int]int{}
		for _, h := range q.Holders {
			m.holds[q.Res][h.Txn] = h.Mode
		}
		for _, w := range q.Waiters {
			m.waits[q.Res] = append(m.waits[q.Res], api.Hold{Txn: w.Txn, Mode: w.Mode})
		}
	}
	return m
}

// rank is a number that rises along the order of what is locked.
func rank(r api.Res) int {
	if !r.IsKey {
		return r.Table << 17
	}
	return r.Table<<17 + 1 + int(r.Id)
}

// locked is all that somebody holds, in order.
func (m *model) locked() []api.Res {
	var out []api.Res
	for r, hs := range m.holds {
		if len(hs) > 0 {
			out = append(out, r)
		}
	}
	slices.SortFunc(out, func(a, b api.Res) int { return rank(a) - rank(b) })
	return out
}

// locks is the model as locks.
func (m *model) locks() api.Locks {
	var out api.Locks
	for _, r := range m.locked() {
		q := api.Queue{Res: r}
		for txn, held := range m.holds[r] {
			q.Holders = append(q.Holders, api.Hold{Txn: txn, Mode: held})
		}
		slices.SortFunc(q.Holders, func(a, b api.Hold) int { return a.Txn - b.Txn })
		for _, w := range m.waits[r] {
			q.Waiters = append(q.Waiters, api.Wait{Txn: w.Txn, Mode: w.Mode, Held: m.holds[r][w.Txn]})
		}
		out.Queues = append(out.Queues, q)
	}
	return out
}

// goes says whether a mode goes with those of all other holders.
func (m *model) goes(r api.Res, txn, wanted int) bool {
	for other, held := range m.holds[r] {
		if other != txn && !mode.Goes(wanted, held) {
			return false
		}
	}
	return true
}

// waitsFor is that for which a transaction waits, its place there, and whether it waits.
func (m *model) waitsFor(txn int) (api.Res, int, bool) {
	for r, ws := range m.waits {
		for i, w := range ws {
			if w.Txn == txn {
				return r, i, true
			}
		}
	}
	return api.Res{}, 0, false
}

// ask is what Ask comes to, of arguments that may be.
func (m *model) ask(txn int, r api.Res, asked int) (int, api.Errno) {
	if _, _, waiting := m.waitsFor(txn); waiting {
		return 0, api.ErrBusy
	}
	own := m.holds[r][txn]
	if mode.Covers(own, asked) {
		return had, api.OK
	}
	wanted, _ := mode.Sup(own, asked)
	if len(m.holds[r]) == 0 {
		if len(m.locked()) == api.MaxQueues {
			return 0, api.ErrFull
		}
		m.holds[r] = map[int]int{}
	}
	if m.goes(r, txn, wanted) && (own != none || len(m.waits[r]) == 0) {
		m.holds[r][txn] = wanted
		return granted, api.OK
	}
	var first, last []api.Hold
	for _, w := range m.waits[r] {
		if m.holds[r][w.Txn] != none {
			first = append(first, w)
		} else {
			last = append(last, w)
		}
	}
	w := []api.Hold{{Txn: txn, Mode: wanted}}
	if own != none {
		m.waits[r] = slices.Concat(first, w, last)
	} else {
		m.waits[r] = slices.Concat(first, last, w)
	}
	return waits, api.OK
}

// release is who is granted something by a Release.
func (m *model) release(txn int) []int {
	for _, hs := range m.holds {
		delete(hs, txn)
	}
	return m.leave(txn)
}

// leave is who is granted something when a transaction waits no more. All is pumped: nobody goes where nothing is gone.
func (m *model) leave(txn int) []int {
	var out, where []int
	for r := range m.waits {
		m.waits[r] = slices.DeleteFunc(m.waits[r], func(w api.Hold) bool { return w.Txn == txn })
		for len(m.waits[r]) > 0 && m.goes(r, m.waits[r][0].Txn, m.waits[r][0].Mode) {
			w := m.waits[r][0]
			m.waits[r] = m.waits[r][1:]
			m.holds[r][w.Txn] = w.Mode
			at := len(out)
			for at > 0 && where[at-1] > rank(r) {
				at--
			}
			out, where = slices.Insert(out, at, w.Txn), slices.Insert(where, at, rank(r))
		}
	}
	return out
}

// blockers is for whom a transaction waits.
func (m *model) blockers(txn int) []int {
	r, at, waiting := m.waitsFor(txn)
	if !waiting {
		return nil
	}
	met := map[int]bool{}
	for other, held := range m.holds[r] {
		met[other] = other != txn && !mode.Goes(m.waits[r][at].Mode, held)
	}
	for _, w := range m.waits[r][:at] {
		met[w.Txn] = true
	}
	var out []int
	for other, in := range met {
		if in {
			out = append(out, other)
		}
	}
	slices.Sort(out)
	return out
}

// mayBeByWords says whether locks may be, sentence by sentence of the chapter's words.
func mayBeByWords(l api.Locks) bool {
	waiting := map[int]int{}
	for i, q := range l.Queues {
		for _, w := range q.Waiters {
			waiting[w.Txn]++
			if waiting[w.Txn] > 1 {
				return false
			}
		}
		if i > 0 && rank(l.Queues[i-1].Res) >= rank(q.Res) || !queueByWords(q) {
			return false
		}
	}
	return len(l.Queues) <= api.MaxQueues
}

// queueByWords says whether a queue of something that is locked may be.
func queueByWords(q api.Queue) bool {
	ok := len(q.Holders) > 0
	m := newModel()
	m.holds[q.Res] = map[int]int{}
	for i, h := range q.Holders {
		ok = ok && h.Txn >= 1 && h.Txn <= 1<<30 && slices.Contains(modesOf(q.Res), h.Mode)
		for _, ahead := range q.Holders[:i] {
			ok = ok && ahead.Txn < h.Txn && mode.Goes(ahead.Mode, h.Mode)
		}
		m.holds[q.Res][h.Txn] = h.Mode
	}
	plain := false
	for i, w := range q.Waiters {
		ok = ok && w.Txn >= 1 && w.Txn <= 1<<30 && slices.Contains(modesOf(q.Res), w.Mode)
		ok = ok && w.Held == m.holds[q.Res][w.Txn] && !mode.Covers(w.Held, w.Mode) && mode.Covers(w.Mode, w.Held)
		ok = ok && (w.Held == none || !plain)
		ok = ok && (i > 0 || !m.goes(q.Res, w.Txn, w.Mode))
		plain = plain || w.Held == none
	}
	return ok
}
