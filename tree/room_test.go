package tree_test

import (
	"slices"
	"testing"

	"bursary/api"
)

// margin is how many parts stand in the room behind the end of a roomy list.
const margin = 2

// markRow and markKid stand in the room behind the ends of roomy rows, kids.
var (
	markRow = at(-7, 7, -7, "mark")
	markKid = on(-7, 7, -7)
)

// markPage stands in the room behind pages; it is a new one each time, for some tests overwrite it.
func markPage() api.Content {
	return api.Content{Kind: -7, Rows: []api.Row{markRow}, Kids: []api.Kid{markKid}}
}

// markSheet stands in the room behind sheets, so.
func markSheet() api.Sheet {
	return sheet(-7, markPage())
}

// isMark says whether a content is such a mark.
func isMark(c api.Content) bool {
	return alikePage(c, markPage())
}

// isMarkSheet says whether a sheet is.
func isMarkSheet(s api.Sheet) bool {
	return s.Page == -7 && isMark(s.Content)
}

// roomyList is a copy of a list, with marks in the room behind its end.
func roomyList[T any](l []T, mark T) []T {
	return slices.Concat(l, slices.Repeat([]T{mark}, margin))[:len(l)]
}

// unmarked says whether something else than marks stands in the room behind a roomy list.
func unmarked[T any](l []T, is func(x T) bool) bool {
	return slices.ContainsFunc(l[len(l):][:margin], func(x T) bool { return !is(x) })
}

// roomyPage is a copy of a content with room behind the ends of its lists.
func roomyPage(c api.Content) api.Content {
	return api.Content{Kind: c.Kind, Rows: roomyList(c.Rows, markRow), Kids: roomyList(c.Kids, markKid)}
}

// checkPage asks whether a roomy content, and the room behind its lists, is as it was made.
func checkPage(t *testing.T, in, want api.Content) {
	t.Helper()
	if !alikePage(in, want) {
		t.Fatalf("%v is left of %v", in, want)
	}
	if unmarked(in.Rows, func(r api.Row) bool { return r == markRow }) || unmarked(in.Kids, func(k api.Kid) bool { return k == markKid }) {
		t.Fatalf("something stands in the room behind %v", want)
	}
}

// roomyForest is a copy of a forest with room behind the ends of all its lists.
func roomyForest(f api.Forest) api.Forest {
	out := api.Forest{Pages: roomyList(f.Pages, markPage())}
	for i, c := range out.Pages {
		out.Pages[i] = roomyPage(c)
	}
	return out
}

// checkForest asks whether a roomy forest, and the room behind its lists, is as it was made.
func checkForest(t *testing.T, in, want api.Forest) {
	t.Helper()
	if len(in.Pages) != len(want.Pages) || unmarked(in.Pages, isMark) {
		t.Fatalf("%v is left of %v", in, want)
	}
	for i, c := range in.Pages {
		checkPage(t, c, want.Pages[i])
	}
}

// roomyGroups is a copy of groups with room behind the ends of all their lists.
func roomyGroups(l []api.Group) []api.Group {
	out := roomyList(l, sheets(markSheet()))
	for i, g := range out {
		out[i] = api.Group{Sheets: roomyList(g.Sheets, markSheet())}
		for j, s := range out[i].Sheets {
			out[i].Sheets[j].Content = roomyPage(s.Content)
		}
	}
	return out
}

// checkGroups asks whether roomy groups, and the room behind their lists, are as they were made.
func checkGroups(t *testing.T, in, want []api.Group) {
	t.Helper()
	if !alikeGroups(in, want) || unmarked(in, func(g api.Group) bool { return len(g.Sheets) == 1 && isMarkSheet(g.Sheets[0]) }) {
		t.Fatalf("%v is left of %v", in, want)
	}
	for i, g := range in {
		if unmarked(g.Sheets, isMarkSheet) {
			t.Fatalf("something stands in the room behind %v", want[i])
		}
		for j, s := range g.Sheets {
			checkPage(t, s.Content, want[i].Sheets[j].Content)
		}
	}
}

// overwritePage puts what may not be over a content's lists, and over the room behind their ends.
func overwritePage(c api.Content) {
	rows, kids := c.Rows[:cap(c.Rows)], c.Kids[:cap(c.Kids)]
	for i := range rows {
		rows[i] = at(-9, 9, -9, "overwritten")
	}
	for i := range kids {
		kids[i] = on(-9, 9, -9)
	}
}

// overwriteForest does so with a forest.
func overwriteForest(f api.Forest) {
	all := f.Pages[:cap(f.Pages)]
	for i := range all {
		overwritePage(all[i])
		all[i] = api.Content{Kind: -9}
	}
}

// overwriteSheets does so with sheets.
func overwriteSheets(l []api.Sheet) {
	all := l[:cap(l)]
	for i := range all {
		overwritePage(all[i].Content)
		all[i] = sheet(-9, api.Content{Kind: -9})
	}
}

// overwriteGroups does so with groups.
func overwriteGroups(l []api.Group) {
	all := l[:cap(l)]
	for i := range all {
		overwriteSheets(all[i].Sheets)
		all[i] = sheets(sheet(-9, free))
	}
}
