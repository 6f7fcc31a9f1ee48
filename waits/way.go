package waits

import (
	"iter"
	"slices"

	"bursary/api"
)

// reached is all those to which a way leads from a transaction. That one is not met at the beginning, for it is among them only if a way leads back.
func reached(l []api.Edge, from int) crowd {
	out := crowd{}
	var goOn func(txn int)
	goOn = func(txn int) {
		for _, e := range l {
			if e.From == txn && !out.met(e.To) {
				out.meet(e.To)
				goOn(e.To)
			}
		}
	}
	goOn(from)
	return out
}

// leads says whether a way leads from one transaction to another one, or back to itself.
func leads(l []api.Edge, from, to int) bool {
	return reached(l, from).met(to)
}

// bound is those bound with a transaction, rising.
func bound(l []api.Edge, txn int) []int {
	var out []int
	for other := range reached(l, txn) {
		if leads(l, other, txn) {
			out = append(out, other)
		}
	}
	slices.Sort(out)
	return out
}

// victim is the youngest of those bound with a transaction; 0, if there is none.
func victim(l []api.Edge, txn int) int {
	all := bound(l, txn)
	if len(all) == 0 {
		return 0
	}
	return all[len(all)-1]
}

// cycles tells all cycles through a transaction, in order: where a way may lead back, that is told ahead of those that go on from there. The memory of what is told is used again, so who keeps it takes a copy.
func cycles(l []api.Edge, txn int) iter.Seq[[]int] {
	return func(yield func(way []int) bool) {
		on := crowd{}
		var goOn func(way []int) bool
		goOn = func(way []int) bool {
			last := way[len(way)-1]
			on.meet(last)
			defer delete(on, last)
			if _, back := place(l, api.Edge{From: last, To: txn}); back && !yield(way) {
				return false
			}
			for _, e := range l {
				if e.From == last && !on.met(e.To) && !goOn(append(way, e.To)) {
					return false
				}
			}
			return true
		}
		goOn([]int{txn})
	}
}
