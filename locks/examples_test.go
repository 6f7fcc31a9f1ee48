package locks_test

import (
	"testing"

	"bursary/api"
	"bursary/locks"
)

// P8.2 to P8.5: the chapter's examples, one behind the other.
func TestExamples(t *testing.T) {
	l := ask(t, api.Locks{}, 1, k, s, granted)
	l = ask(t, l, 2, k, s, granted)
	l = ask(t, l, 1, k, e, waits)
	checkWaits(t, l, 1, k, x, true)
	checkLocks(t, "the first line", l, one(k, holds(1, s, 2, s), 1, x, s))

	l = ask(t, l, 3, k, s, waits)
	checkBlockers(t, l, 1, 2)
	checkBlockers(t, l, 3, 1)
	checkLocks(t, "the second line", l, one(k, holds(1, s, 2, s), 1, x, s, 3, s, none))

	refuse(t, l, 1, k, s, api.ErrBusy)
	l = ask(t, l, 2, k, s, had)

	l = leave(t, locks.Release, l, 2, 1)
	checkMode(t, l, 1, k, x)
	checkLocks(t, "the fourth line", l, one(k, holds(1, x), 3, s, none))
	l = leave(t, locks.Release, l, 1, 3)
	checkLocks(t, "the fourth line's end", l, one(k, holds(3, s)))

	noLeave(t, locks.Leave, l, 3, api.ErrNone)
	refuse(t, l, 3, tab, e, api.ErrArg)
	refuse(t, l, 0, k, s, api.ErrArg)
}
