package page_test

import (
	"fmt"
	"testing"

	"bursary/api"
	"bursary/page"
)

// overwrite puts rows, kids that may not be all over a page's lists, and over the room behind their ends.
func overwrite(c api.Content) {
	rows, kids := c.Rows[:cap(c.Rows)], c.Kids[:cap(c.Kids)]
	for i := range rows {
		rows[i] = at(-7, 7, -7, "overwritten")
	}
	for i := range kids {
		kids[i] = on(-7, 7, -7)
	}
}

// deed is a call that answers pages, of two pages, or of the first of both.
type deed func(a, b api.Content) []api.Content

// deeds are all such calls, with arguments that fit some pages.
func deeds() []deed {
	var out []deed
	for _, k := range someKeys {
		out = append(out,
			func(a, _ api.Content) []api.Content { c, _ := page.Put(a, rowOf(k)); return []api.Content{c} },
			func(a, _ api.Content) []api.Content { c, _, _ := page.Take(a, k); return []api.Content{c} },
			func(a, b api.Content) []api.Content { c, _ := page.Join(a, b, k); return []api.Content{c} },
			func(a, b api.Content) []api.Content { c, d, _, _ := page.Level(a, b, k); return []api.Content{c, d} })
		for i := range 4 {
			out = append(out,
				func(a, _ api.Content) []api.Content { c, _ := page.Adopt(a, i, 9, k); return []api.Content{c} },
				func(a, _ api.Content) []api.Content { c, _ := page.Disown(a, i); return []api.Content{c} },
				func(a, _ api.Content) []api.Content { c, _ := page.Step(a, i, k); return []api.Content{c} })
		}
	}
	return append(out, func(a, _ api.Content) []api.Content { c, d, _, _ := page.Split(a); return []api.Content{c, d} })
}

// someA and someB are pages that may stand beside one another, of both Kinds, and others.
var (
	someA = []api.Content{leaf(), ids(1), ids(0, 1), leafOf(someKeys[:3]...), leafOf(someKeys[:4]...), kids(20, 1), kids(20, 1, 2), kids(20, 1, 2, 256), free, ids(2, 1)}
	someB = []api.Content{leaf(), leafOf(someKeys[5:]...), leafOf(someKeys[4:]...), innerOf(30, someKeys[6]), innerOf(30, someKeys[5:]...), innerOf(40, someKeys[4:]...), free}
)

// R3: what is answered is new memory: what was handed in stays as it is when that is overwritten, and that stays when what was handed in is.
func TestAnswersAreNewMemory(t *testing.T) {
	n := 0
	for _, a := range someA {
		for _, b := range someB {
			for _, do := range deeds() {
				inA, inB := roomy(a), roomy(b)
				got := do(inA, inB)
				want := fmt.Sprint(got)
				overwrite(inA)
				overwrite(inB)
				if fmt.Sprint(got) != want {
					t.Fatalf("an answer to %v, %v has changed with what was handed in: %v, want %s", a, b, got, want)
				}
				inA, inB = roomy(a), roomy(b)
				for _, c := range do(inA, inB) {
					n += size(c)
					overwrite(c)
					checkUntouched(t, inA, a)
					checkUntouched(t, inB, b)
				}
			}
		}
	}
	if n < 2000 {
		t.Fatalf("%d rows, kids were overwritten", n)
	}
}

// R3: no two pages of one answer share memory, the room behind their ends neither.
func TestPagesOfOneAnswerShareNothing(t *testing.T) {
	n := 0
	for _, a := range someA {
		for _, b := range someB {
			for _, do := range deeds() {
				want := do(a, b)
				if len(want) == 1 {
					continue
				}
				n += size(want[0]) * size(want[1])
				for i := range want {
					got := do(a, b)
					overwrite(got[i])
					if !alike(got[1-i], want[1-i]) {
						t.Fatalf("of %v and %v: %v has changed with the other one", a, b, want[1-i])
					}
				}
			}
		}
	}
	if n < 100 {
		t.Fatalf("%d pairs of rows, kids were answered", n)
	}
}

// R3: pages that are handed in as both, or that share memory, are not changed in one of them with the other.
func TestSharedPagesHandedIn(t *testing.T) {
	rows := ids(1, 2, 3, 4, 5, 6).Rows
	check(t, "Level", level(t, leaf(rows[:2]...), leaf(rows[2:]...), key(0, 3)), answer{a: ids(1, 2, 3), b: ids(4, 5, 6), key: key(0, 4)})
	in := leaf(rows[:1]...) // with b's rows in the room behind its end
	got, e := page.Join(in, leaf(rows[2:4]...), key(0, 3))
	check(t, "Join", answer{a: got, e: e}, answer{a: ids(1, 3, 4)})
	got, e = page.Put(in, rowOf(key(0, 9)))
	check(t, "Put", answer{a: got, e: e}, answer{a: ids(1, 9)})
	if !alike(leaf(rows...), ids(1, 2, 3, 4, 5, 6)) {
		t.Fatalf("%v is left", rows)
	}
	c := kids(3, 5, 7)
	if _, e := page.Join(c, c, key(0, 9)); e != api.ErrFull {
		t.Fatalf("Join: error %d", e)
	}
	if _, _, _, e := page.Level(c, api.Content{Kind: api.KindInner, Kids: c.Kids[:2]}, key(0, 9)); e != api.ErrArg || !alike(c, kids(3, 5, 7)) {
		t.Fatalf("Level: error %d, %v is left", e, c)
	}
}

// R5: the same call answers the same, once more and behind others, and what is answered to others stays.
func TestAnswersStay(t *testing.T) {
	var kept [][]api.Content
	var texts []string
	for round := range 3 {
		n := 0
		for _, a := range someA {
			for _, b := range someB {
				for _, do := range deeds() {
					got := do(a, b)
					if text := fmt.Sprint(got); round == 0 {
						kept, texts = append(kept, got), append(texts, text)
					} else if text != texts[n] {
						t.Fatalf("of %v and %v: %s, and once more %s", a, b, texts[n], text)
					}
					n++
				}
			}
		}
	}
	for i, got := range kept {
		if fmt.Sprint(got) != texts[i] {
			t.Fatalf("an answer has changed behind others: %v, want %s", got, texts[i])
		}
	}
}
