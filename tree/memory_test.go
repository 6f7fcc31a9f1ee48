package tree_test

import (
	"fmt"
	"slices"
	"testing"

	"bursary/api"
	"bursary/tree"
)

// deed is a call of a forest and groups, and what it answers.
type deed func(f api.Forest, l []api.Group) answer

// deeds are all calls that answer lists, with arguments that fit some forests.
func deeds() []deed {
	out := []deed{
		func(f api.Forest, _ []api.Group) (out answer) { out.rows, out.e = tree.Rows(f); return out },
		func(f api.Forest, l []api.Group) (out answer) { out.forest, out.e = tree.Apply(f, l...); return out },
		func(_ api.Forest, l []api.Group) answer { return answer{sheets: tree.Net(l)} },
		func(f api.Forest, _ []api.Group) (out answer) { out.forest, out.e = tree.Apply(f); return out },
	}
	for id := range uint16(10) {
		k := key(0, id*10+10)
		out = append(out,
			func(f api.Forest, _ []api.Group) (out answer) {
				out.groups, out.e = tree.Put(f, rowOf(key(0, k.Id+1)))
				return out
			},
			func(f api.Forest, _ []api.Group) (out answer) { out.groups, out.e = tree.Put(f, rowOf(k)); return out },
			func(f api.Forest, _ []api.Group) (out answer) {
				out.groups, out.row, out.e = tree.Take(f, k)
				return out
			})
	}
	return out
}

// overwrite puts what may not be over all lists of an answer.
func overwrite(a answer) {
	overwriteForest(a.forest)
	overwriteGroups(a.groups)
	overwriteSheets(a.sheets)
	all := a.rows[:cap(a.rows)]
	for i := range all {
		all[i] = at(-9, 9, -9, "overwritten")
	}
}

// handed is a forest, and groups that can be applied to it.
type handed struct {
	f api.Forest
	l []api.Group
}

// someHanded are forests of several shapes, each with the groups of a Put, of a Take, and with such as change nothing.
func someHanded(t *testing.T) []handed {
	t.Helper()
	var out []handed
	for _, n := range []node{lf(0), lf(3), lf(4), nd(lfs(2, 2)...), nd(lfs(4, 3)...), nd(lfs(4, 4, 4, 4)...), least(3), each(4, 2), nd(each(4, 4, 4, 4), each(2, 2), each(3, 2), each(2, 2))} {
		f := plain(n)
		out = append(out, handed{f, nil}, handed{f, []api.Group{group(allPages(f))}})
		out = append(out, handed{f, expectOK(t, "Put", put(t, f, rowOf(key(0, 11)))).groups})
		if n.rowsIn() > 0 {
			out = append(out, handed{f, expectOK(t, "Take", take(t, f, key(0, 20))).groups})
		}
	}
	return out
}

// R3: what is answered is new memory: what was handed in stays as it is when that is overwritten, and that stays when what was handed in is.
func TestAnswersAreNewMemory(t *testing.T) {
	for _, h := range someHanded(t) {
		for _, do := range deeds() {
			f, l := roomyForest(h.f), roomyGroups(h.l)
			got := do(f, l)
			want := fmt.Sprint(got)
			overwriteForest(f)
			overwriteGroups(l)
			if fmt.Sprint(got) != want {
				t.Fatalf("an answer has changed with what was handed in: %v, want %s", got, want)
			}
			f, l = roomyForest(h.f), roomyGroups(h.l)
			overwrite(do(f, l))
			checkForest(t, f, h.f)
			checkGroups(t, l, h.l)
		}
	}
}

// lists are all pages of an answer.
func lists(a answer) []api.Content {
	out := slices.Clone(a.forest.Pages)
	for _, g := range a.groups {
		for _, s := range g.Sheets {
			out = append(out, s.Content)
		}
	}
	for _, s := range a.sheets {
		out = append(out, s.Content)
	}
	return out
}

// R3: no two pages of one answer share memory, the room behind their ends neither.
func TestPagesOfOneAnswerShareNothing(t *testing.T) {
	n := 0
	for _, h := range someHanded(t) {
		for _, do := range deeds() {
			got := lists(do(h.f, h.l))
			for i := range got {
				if size(got[i]) == 0 {
					continue
				}
				n++
				overwritePage(got[i])
				if again := lists(do(h.f, h.l)); !slices.EqualFunc(got[i+1:], again[i+1:], alikePage) {
					t.Fatalf("the pages %v have changed with the one ahead, want %v", got[i+1:], again[i+1:])
				}
			}
		}
	}
	if n < 1000 {
		t.Fatalf("%d pages were overwritten", n)
	}
}

// R3: no two groups of one answer share the room behind their sheets.
func TestGroupsOfOneAnswerShareNothing(t *testing.T) {
	for _, h := range someHanded(t) {
		for _, do := range deeds() {
			got, want := do(h.f, h.l).groups, do(h.f, h.l).groups
			for i, g := range got {
				overwriteSheets(g.Sheets)
				if !alikeGroups(got[i+1:], want[i+1:]) {
					t.Fatalf("the groups %v have changed with the one ahead, want %v", got[i+1:], want[i+1:])
				}
			}
		}
	}
}

// R3: pages that share memory where they are handed in do not share it in what is answered.
func TestSharedPagesHandedIn(t *testing.T) {
	c := leaf(rowOf(key(0, 5)))
	l := []api.Group{sheets(sheet(3, c), sheet(9, c)), sheets(sheet(7, c))}
	got := tree.Net(l)
	overwritePage(got[0].Content)
	if !alikeSheets(got[1:], []api.Sheet{sheet(7, ids(5)), sheet(9, ids(5))}) || !alikePage(c, ids(5)) {
		t.Fatalf("%v is left, of %v", got, c)
	}
	rows := ids(1, 2, 3, 4).Rows
	f := forest(pages{0: inner(to(0, 1), to(3, 2)), 1: leaf(rows[:2]...), 2: leaf(rows[2:]...)}) // one leaf lies in the room behind the other one
	check(t, "Put", put(t, f, rowOf(key(0, 0))), answer{groups: []api.Group{group(pages{1: ids(0, 1, 2)})}})
	groups, e := tree.Put(f, rowOf(key(2, 0)))
	check(t, "Put", answer{groups: groups, e: e}, putByWords(f, rowOf(key(2, 0))))
	groups, r, e := tree.Take(f, key(0, 2))
	check(t, "Take", answer{groups: groups, row: r, e: e}, takeByWords(f, key(0, 2)))
	g, e := tree.Apply(f)
	check(t, "Apply", answer{forest: g, e: e}, answer{forest: f})
	if !slices.Equal(rows, ids(1, 2, 3, 4).Rows) {
		t.Fatalf("%v is left", rows)
	}
	overwritePage(g.Pages[1])
	if !alikePage(g.Pages[2], ids(3, 4)) {
		t.Fatalf("%v is left", g.Pages[2])
	}
}

// R5: the same call answers the same, once more and behind others, and what is answered to others stays.
func TestAnswersStay(t *testing.T) {
	var kept []answer
	var texts []string
	all := someHanded(t)
	for round := range 3 {
		n := 0
		for _, h := range all {
			for _, do := range deeds() {
				got := do(h.f, h.l)
				if text := fmt.Sprint(got); round == 0 {
					kept, texts = append(kept, got), append(texts, text)
				} else if text != texts[n] {
					t.Fatalf("%s, and once more %s", texts[n], text)
				}
				n++
			}
		}
	}
	for i, got := range kept {
		if fmt.Sprint(got) != texts[i] {
			t.Fatalf("an answer has changed behind others: %v, want %s", got, texts[i])
		}
	}
}
