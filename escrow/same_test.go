package escrow_test

import (
	"slices"
	"testing"

	"bursary/api"
)

// copied is an escrow that is the same, and shares no memory.
func copied(e api.Escrow) api.Escrow {
	out := api.Escrow{Rows: slices.Clone(e.Rows)}
	for i := range out.Rows {
		out.Rows[i].Shares = slices.Clone(out.Rows[i].Shares)
	}
	return out
}

// P10.1: each is the same as itself, and as a copy, whether it may be or not.
func TestSame(t *testing.T) {
	for name, e := range goodEscrows() {
		checkSame(t, name, e, e, true)
		checkSame(t, name, e, copied(e), true)
	}
	for name, e := range badEscrows() {
		checkSame(t, name, e, e, true)
		checkSame(t, name, e, copied(e), true)
	}
}

// P10.1: two that differ in one place each.
func TestSameOfOnePlace(t *testing.T) {
	base := rows(
		pending(key(0, 3), 4, share(1, 0, 1, 1), share(2, -4, 0, 2)),
		pending(key(1, 3), -9, share(2, -1, -1, 3)),
		pending(key(2, 3), 0, share(1, 0, 1, 1), share(2, 0, 0, 0), share(3, -7, -6, 5)),
	)
	changes := map[string]func(p *api.Pending){
		"Table":                func(p *api.Pending) { p.Key.Table++ },
		"Table, 32 bits up":    func(p *api.Pending) { p.Key.Table += 1 << 32 },
		"Id":                   func(p *api.Pending) { p.Key.Id++ },
		"Id, a byte up":        func(p *api.Pending) { p.Key.Id += 256 },
		"Value":                func(p *api.Pending) { p.Value++ },
		"Value, 32 bits up":    func(p *api.Pending) { p.Value += 1 << 32 },
		"a share less":         func(p *api.Pending) { p.Shares = p.Shares[:len(p.Shares)-1] },
		"the first share less": func(p *api.Pending) { p.Shares = p.Shares[1:] },
		"a share more":         func(p *api.Pending) { p.Shares = append(p.Shares, share(9, 0, 0, 0)) },
		"a zero share more":    func(p *api.Pending) { p.Shares = append(p.Shares, api.Share{}) },
	}
	ofShares := map[string]func(s *api.Share){
		"Txn": func(s *api.Share) { s.Txn++ },
		"Sum": func(s *api.Share) { s.Sum++ },
		"Hi":  func(s *api.Share) { s.Hi++ },
		"Lo":  func(s *api.Share) { s.Lo++ },
	}
	for i := range base.Rows {
		for name, change := range changes {
			other := copied(base)
			change(&other.Rows[i])
			checkSame(t, name, base, other, false)
		}
		for j := range base.Rows[i].Shares {
			for name, change := range ofShares {
				other := copied(base)
				change(&other.Rows[i].Shares[j])
				checkSame(t, name, base, other, false)
			}
		}
		checkSame(t, "a key less", base, api.Escrow{Rows: slices.Delete(copied(base).Rows, i, i+1)}, false)
		checkSame(t, "a key more", base, api.Escrow{Rows: slices.Insert(copied(base).Rows, i, api.Pending{})}, false)
	}
	checkSame(t, "in another order", base, rows(base.Rows[1], base.Rows[0], base.Rows[2]), false)
	turned := copied(base)
	slices.Reverse(turned.Rows[0].Shares)
	checkSame(t, "shares in another order", base, turned, false)
}

// P10.1, R3: nil and empty lists are one.
func TestSameOfNone(t *testing.T) {
	checkSame(t, "none", api.Escrow{}, api.Escrow{Rows: []api.Pending{}}, true)
	checkSame(t, "no shares", rows(pending(k, 4)), rows(api.Pending{Key: k, Value: 4, Shares: []api.Share{}}), true)
	checkSame(t, "none and one", api.Escrow{}, rows(api.Pending{}), false)
	checkSame(t, "none and many", api.Escrow{}, many(api.MaxPending), false)
}

// P10.1: of all that may be, and all that may not, each two that are unlike.
func TestSameOfEachTwo(t *testing.T) {
	all := goodEscrows()
	for name, e := range badEscrows() {
		all["bad: "+name] = e
	}
	for name, a := range all {
		for other, b := range all {
			checkSame(t, name+", "+other, a, b, same(a, b))
		}
	}
}
