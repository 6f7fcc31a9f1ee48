package page_test

import (
	"slices"
	"testing"

	"bursary/api"
	"bursary/page"
)

// P11.5: what is split and joined by its step is itself.
func TestWhatIsSplitAndJoinedIsItself(t *testing.T) {
	n := 0
	for _, c := range goodPages() {
		if !page.Full(c) {
			continue
		}
		n++
		s := split(t, c)
		check(t, "Split, Join", join(t, s.a, s.b, s.key), answer{a: c})
		if page.Size(s.a) != api.Few || page.Size(s.b) != api.Few || !page.Small(s.a) || !page.Small(s.b) {
			t.Fatalf("%v is split to %v and %v", c, s.a, s.b)
		}
	}
	if n < 60 {
		t.Fatalf("%d pages were full", n)
	}
}

// listed is a page's rows, kids, one behind the other: of a kid its page alone.
func listed(all ...api.Content) ([]api.Row, []int) {
	var rows []api.Row
	var pages []int
	for _, c := range all {
		rows = append(rows, c.Rows...)
		for _, k := range c.Kids {
			pages = append(pages, k.Page)
		}
	}
	return rows, pages
}

// checkSameParts asks whether pages have the same rows, and kids of the same pages, together, in order.
func checkSameParts(t *testing.T, before, behind []api.Content) {
	t.Helper()
	rows, pages := listed(before...)
	rows2, pages2 := listed(behind...)
	if !slices.Equal(rows, rows2) || !slices.Equal(pages, pages2) {
		t.Fatalf("of %v came %v", before, behind)
	}
}

// pairs are two pages each that stand beside one another, and the step between them.
func pairs() []answer {
	var out []answer
	for n := range 5 {
		for m := range 5 {
			all := ids(2, 4, 6, 8, 10, 12, 14, 16).Rows
			out = append(out, answer{a: leaf(all[:n]...), b: leaf(all[n : n+m]...), key: all[n].Key})
		}
	}
	for n := 1; n < 4; n++ {
		for m := 1; m < 4; m++ {
			low, high := []uint16{2, 4, 6}, []uint16{12, 14, 16}
			out = append(out, answer{a: kids(3, low[:n]...), b: kids(33, high[:m]...), key: key(0, 9)})
			out = append(out, answer{a: kids(40, low[:n]...), b: kids(3, high[:m]...), key: key(0, uint16(2*n+1))})
		}
	}
	return out
}

// P11.5: joined pages have the rows, kids of both.
func TestJoinedPagesHaveAllOfBoth(t *testing.T) {
	for _, p := range pairs() {
		if size(p.a)+size(p.b) > 4 {
			refused(t, "Join", join(t, p.a, p.b, p.key), api.ErrFull)
			continue
		}
		got := join(t, p.a, p.b, p.key)
		expectOK(t, got)
		checkSameParts(t, []api.Content{p.a, p.b}, []api.Content{got.a})
	}
}

// difference is how far two pages are from one another in size.
func difference(p answer) int {
	return max(size(p.a), size(p.b)) - min(size(p.a), size(p.b))
}

// P11.5: levelled ones together, too, and are nearer to one another in size; but where one alone is between them, they change sizes. And they may be joined, levelled on by the new step.
func TestLevelledPagesAreNearer(t *testing.T) {
	for _, p := range pairs() {
		apart := difference(p)
		if apart == 0 || size(p.a) == 0 && size(p.b) == 1 {
			refused(t, "Level", level(t, p.a, p.b, p.key), api.ErrArg)
			continue
		}
		got := level(t, p.a, p.b, p.key)
		expectOK(t, got)
		checkSameParts(t, []api.Content{p.a, p.b}, []api.Content{got.a, got.b})
		if apart > 1 && difference(got) != apart-2 || apart == 1 && size(got.a) != size(p.b) {
			t.Fatalf("%v and %v are levelled to %v and %v", p.a, p.b, got.a, got.b)
		}
		if apart == 1 && size(got.a) > 0 {
			check(t, "levelled back", level(t, got.a, got.b, got.key), p)
		}
		if size(p.a)+size(p.b) <= 4 {
			check(t, "levelled and joined", join(t, got.a, got.b, got.key), join(t, p.a, p.b, p.key))
		}
	}
}

// expectOK asks for no error.
func expectOK(t *testing.T, got answer) {
	t.Helper()
	if got.e != api.OK {
		t.Fatalf("error %d", got.e)
	}
}

// P11.5: what was put is got, what was taken not; all others as before.
func TestWhatWasPutIsGot(t *testing.T) {
	for _, c := range goodLeaves() {
		for _, k := range someKeys {
			r := api.Row{Key: k, Val: -9, Note: "put"}
			behind := put(t, c, r)
			if behind.e != api.OK {
				refused(t, "of a full leaf", get(t, c, k), api.ErrNone)
				continue
			}
			check(t, "what was put", get(t, behind.a, k), answer{row: r})
			taken := take(t, behind.a, k)
			check(t, "what was put, taken", answer{row: taken.row}, answer{row: r})
			refused(t, "what was taken", get(t, taken.a, k), api.ErrNone)
			refused(t, "what was taken, once more", take(t, taken.a, k), api.ErrNone)
			for _, other := range someKeys {
				if other != k {
					check(t, "another one, behind Put", get(t, behind.a, other), get(t, c, other))
					check(t, "another one, behind Take", get(t, taken.a, other), get(t, c, other))
				}
			}
			check(t, "put again", put(t, taken.a, r), answer{a: behind.a})
		}
	}
}

// P11.3: a kid that was adopted is the kid for its Least, and may be disowned again; a step goes back.
func TestWhatWasAdoptedIsTheKid(t *testing.T) {
	n := 0
	for _, c := range goodInners(20) {
		for at := range c.Kids {
			for _, k := range someKeys {
				got := adopt(t, c, at, 7, k)
				if got.e != api.OK {
					continue
				}
				n++
				check(t, "the kid for its Least", kid(t, got.a, k), answer{n: at + 1})
				if k.Id > 0 {
					check(t, "for the key ahead of it", kid(t, got.a, key(k.Table, k.Id-1)), answer{n: at})
				}
				check(t, "disowned again", disown(t, got.a, at+1), answer{a: c})
			}
			for _, k := range someKeys {
				if got := step(t, c, at, k); got.e == api.OK {
					check(t, "stepped back", step(t, got.a, at, c.Kids[at].Least), answer{a: c})
					check(t, "the kid for the step", kid(t, got.a, k), answer{n: at})
				}
			}
		}
	}
	if n < 50 {
		t.Fatalf("%d kids were adopted", n)
	}
}
