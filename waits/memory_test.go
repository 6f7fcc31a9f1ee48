package waits_test

import (
	"fmt"
	"slices"
	"testing"

	"bursary/api"
	"bursary/waits"
)

// overwrite puts a number all over rows, and over the room behind their ends.
func overwrite(rows ...[]int) {
	for _, r := range rows {
		for i := range r[:cap(r)] {
			r[:cap(r)][i] = -7
		}
	}
}

// overwriteEdges puts edges that may not be all over a list, and over the room behind its end.
func overwriteEdges(l []api.Edge) {
	for i := range l[:cap(l)] {
		l[:cap(l)][i] = api.Edge{From: -7, To: -7}
	}
}

// all is what every call but Add answers of edges and a transaction, and of Add what it answers of those edges and two more.
type all struct {
	check, e1, e2, e3, e4, e5, e6 api.Errno
	leads, circles                bool
	victim                        int
	bound, gone                   []int
	cycles                        [][]int
	left, without, added          []api.Edge
}

// allOf asks every call.
func allOf(l []api.Edge, txn int) all {
	var a all
	a.check, a.circles, a.leads = waits.Check(l), waits.Circles(l), waits.Leads(l, txn, 1)
	a.bound, a.e1 = waits.Bound(l, txn)
	a.victim, a.e2 = waits.Victim(l, txn)
	a.gone, a.left, a.e3 = waits.Break(l, txn)
	a.cycles, a.e4 = waits.Cycles(l, txn)
	a.without, a.e5 = waits.Without(l, txn)
	a.added, a.e6 = waits.Add(l, api.Edge{From: 2, To: 1}, api.Edge{From: 1, To: 2})
	return a
}

// R3: what is answered is new memory: the edges that were handed in stay as they are when it is overwritten, and it stays when they are.
func TestAnswersAreNewMemory(t *testing.T) {
	for name, l := range goodEdges() {
		for _, txn := range []int{1, 2, 3, 4, 8, 9} {
			in := roomy(l)
			a := allOf(in, txn)
			want := fmt.Sprint(a)
			overwriteEdges(in)
			if got := fmt.Sprint(a); got != want {
				t.Fatalf("%s: an answer to %d has changed with what was handed in: %s, want %s", name, txn, got, want)
			}
			in = roomy(l)
			a = allOf(in, txn)
			overwrite(a.bound, a.gone)
			overwrite(a.cycles...)
			for _, edges := range [][]api.Edge{a.left, a.without, a.added} {
				overwriteEdges(edges)
			}
			checkUntouched(t, name, in, l)
		}
	}
}

// R3: nor does what comes to Add share memory with what is answered.
func TestAddKeepsNothing(t *testing.T) {
	for name, l := range goodEdges() {
		for _, was := range [][]api.Edge{nil, edges(5, 1), l} {
			in, more := roomy(was), roomy(l)
			got, err := waits.Add(in, more...)
			if err != api.OK {
				continue
			}
			want := slices.Clone(got)
			overwriteEdges(more)
			if !slices.Equal(got, want) {
				t.Fatalf("%s: Add's answer has changed with what came", name)
			}
			more = roomy(l)
			got, _ = waits.Add(in, more...)
			overwriteEdges(got)
			checkUntouched(t, name, more, l)
			checkUntouched(t, name, in, was)
		}
	}
}

// R3: no two lists of one answer share memory.
func TestListsOfOneAnswerShareNothing(t *testing.T) {
	for _, l := range [][]api.Edge{complete(1, 2, 3), complete(1, 2, 3, 4), complete(1, 2, 3, 4, 5)} {
		got, _ := waits.Cycles(l, 1)
		want, _ := waits.Cycles(l, 1)
		for i := range got {
			overwrite(got[i])
			for j := range got {
				if j > i && !slices.Equal(got[j], want[j]) {
					t.Fatalf("the cycle %v has changed with %v", want[j], want[i])
				}
			}
		}
		got, _ = waits.Cycles(l, 1)
		for i := len(got) - 1; i > 0; i-- {
			overwrite(got[i])
			if !slices.EqualFunc(got[:i], want[:i], slices.Equal) {
				t.Fatalf("cycles have changed with %v", want[i])
			}
		}
	}
}

// R5: the same call answers the same, once more and behind others, and what is answered to others stays.
func TestAnswersStay(t *testing.T) {
	met := map[string]string{}
	var kept []all
	var texts []string
	for range 3 {
		for name, l := range goodEdges() {
			for _, txn := range []int{0, 1, 2, 3, 9, 10} {
				a := allOf(l, txn)
				text, call := fmt.Sprint(a), fmt.Sprint(name, ", ", txn)
				if was, there := met[call]; there && was != text {
					t.Fatalf("%s: %s, and once more %s", call, was, text)
				}
				met[call] = text
				kept, texts = append(kept, a), append(texts, text)
			}
		}
		for name, l := range badEdges() {
			if a := allOf(l[:min(len(l), 60)], 1); a.check != api.ErrEdges {
				t.Fatalf("%s: error %d", name, a.check)
			}
		}
	}
	for i, a := range kept {
		if got := fmt.Sprint(a); got != texts[i] {
			t.Fatalf("an answer has changed behind others: %s, want %s", got, texts[i])
		}
	}
}
