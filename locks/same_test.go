package locks_test

import (
	"slices"
	"testing"

	"bursary/api"
	"bursary/locks"
)

// checkSame holds Same of two, either way round, against what is wanted.
func checkSame(t *testing.T, name string, a, b api.Locks, want bool) {
	t.Helper()
	inA, inB := roomy(a), roomy(b)
	if locks.Same(inA, inB) != want || locks.Same(inB, inA) != want {
		t.Fatalf("%s: Same of %v and %v: %t, %t, want %t", name, a, b, locks.Same(inA, inB), locks.Same(inB, inA), want)
	}
	checkUntouched(t, name, inA, a)
	checkUntouched(t, name, inB, b)
}

// P8.1: each is the same as itself, and as no other one.
func TestSame(t *testing.T) {
	good := goodLocks()
	for name, a := range good {
		for other, b := range good {
			empty := len(a.Queues) == 0 && len(b.Queues) == 0
			checkSame(t, name+", "+other, a, b, name == other || empty)
		}
	}
}

// P8.1: so it is of what may not be.
func TestSameOfWhatMayNotBe(t *testing.T) {
	bad := badLocks()
	for name, a := range bad {
		checkSame(t, name, a, a, true)
		checkSame(t, name, a, api.Locks{}, false)
		checkSame(t, name, a, goodLocks()["in several queues"], false)
	}
}

// P8.1: two that differ in one place.
func TestSameOfOnePlace(t *testing.T) {
	make := func() api.Locks {
		return all(
			queue(tab, holds(1, is, 2, ix), wants(4, x, none, 5, s, none)),
			queue(k, holds(1, s, 3, s), wants(3, x, s, 2, e, none)),
		)
	}
	checkSame(t, "nowhere", make(), make(), true)
	for name, change := range map[string]func(l *api.Locks){
		"Table":                    func(l *api.Locks) { l.Queues[1].Res.Table = 1 },
		"IsKey":                    func(l *api.Locks) { l.Queues[1].Res.IsKey = false },
		"Id":                       func(l *api.Locks) { l.Queues[1].Res.Id = 8 },
		"the table's Id":           func(l *api.Locks) { l.Queues[0].Res.Id = 1 },
		"a holder's Txn":           func(l *api.Locks) { l.Queues[0].Holders[1].Txn = 3 },
		"a holder's Mode":          func(l *api.Locks) { l.Queues[0].Holders[0].Mode = ix },
		"the last holder's Mode":   func(l *api.Locks) { l.Queues[1].Holders[1].Mode = x },
		"a waiter's Txn":           func(l *api.Locks) { l.Queues[0].Waiters[0].Txn = 6 },
		"a waiter's Mode":          func(l *api.Locks) { l.Queues[0].Waiters[1].Mode = x },
		"a waiter's Held":          func(l *api.Locks) { l.Queues[1].Waiters[0].Held = e },
		"the last waiter's Held":   func(l *api.Locks) { l.Queues[1].Waiters[1].Held = s },
		"a holder less":            func(l *api.Locks) { l.Queues[0].Holders = l.Queues[0].Holders[:1] },
		"no holders":               func(l *api.Locks) { l.Queues[1].Holders = nil },
		"a waiter less":            func(l *api.Locks) { l.Queues[1].Waiters = l.Queues[1].Waiters[:1] },
		"no waiters":               func(l *api.Locks) { l.Queues[0].Waiters = nil },
		"a holder more":            func(l *api.Locks) { l.Queues[1].Holders = append(l.Queues[1].Holders, api.Hold{Txn: 4, Mode: s}) },
		"a waiter more":            func(l *api.Locks) { l.Queues[1].Waiters = append(l.Queues[1].Waiters, api.Wait{Txn: 9, Mode: x}) },
		"a zero holder more":       func(l *api.Locks) { l.Queues[0].Holders = append(l.Queues[0].Holders, api.Hold{}) },
		"a zero waiter more":       func(l *api.Locks) { l.Queues[0].Waiters = append(l.Queues[0].Waiters, api.Wait{}) },
		"a queue less":             func(l *api.Locks) { l.Queues = l.Queues[:1] },
		"the first queue less":     func(l *api.Locks) { l.Queues = l.Queues[1:] },
		"a zero queue more":        func(l *api.Locks) { l.Queues = append(l.Queues, api.Queue{}) },
		"a queue more":             func(l *api.Locks) { l.Queues = append(l.Queues, queue(table(1), holds(1, x), nil)) },
		"waiters in another order": func(l *api.Locks) { slices.Reverse(l.Queues[1].Waiters) },
		"holders in another order": func(l *api.Locks) { slices.Reverse(l.Queues[0].Holders) },
		"queues in another order":  func(l *api.Locks) { slices.Reverse(l.Queues) },
		"a waiter among holders":   func(l *api.Locks) { l.Queues[0].Waiters, l.Queues[0].Holders = nil, holds(1, is, 2, ix, 4, x, 5, s) },
		"waiters of the next queue": func(l *api.Locks) {
			l.Queues[0].Waiters, l.Queues[1].Waiters = l.Queues[1].Waiters, l.Queues[0].Waiters
		},
	} {
		l := make()
		change(&l)
		checkSame(t, name, make(), l, false)
		checkSame(t, name, l, l, true)
	}
}

// P8.1, R3: nil and empty lists are the same.
func TestSameOfEmptyLists(t *testing.T) {
	empty := all(api.Queue{Res: k, Holders: []api.Hold{}, Waiters: []api.Wait{}})
	absent := all(api.Queue{Res: k})
	for _, pair := range [][2]api.Locks{{empty, absent}, {{}, {Queues: []api.Queue{}}}} {
		if !locks.Same(pair[0], pair[1]) || !locks.Same(pair[1], pair[0]) {
			t.Fatalf("%v and %v are not the same", pair[0], pair[1])
		}
	}
	if locks.Same(absent, api.Locks{}) {
		t.Fatal("a queue of nobody is not nothing")
	}
}
