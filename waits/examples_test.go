package waits_test

import (
	"testing"

	"bursary/api"
	"bursary/waits"
)

// P9.1 to P9.4: the chapter's examples, call by call.
func TestExamples(t *testing.T) {
	l := edges(1, 2, 2, 1, 2, 3, 3, 2)
	expect(t, "Check", waits.Check(l), api.OK)

	checkBound(t, l, 2, 1, 2, 3)
	victim, err := waits.Victim(l, 1)
	expect(t, "Victim(1)", err, api.OK)
	if victim != 3 {
		t.Fatalf("Victim(1): %d", victim)
	}
	checkBreak(t, l, 2, []int{3, 2}, nil)

	checkCycles(t, l, 2, []int{2, 1}, []int{2, 3})

	checkLeads(t, l, 1, 1, true)
	checkLeads(t, l, 1, 4, false)
	checkCircles(t, edges(1, 2, 2, 3), false)
}
