package ideal_test

import (
	"math"
	"slices"
	"testing"

	"bursary/api"
)

// P15.2: of rows that may be: Rows and Begun are these, and nothing else is there.
func TestBegin(t *testing.T) {
	for _, l := range goodLists() {
		x, e := begin(t, three, l)
		expect(t, "Begin", e, api.OK)
		if !slices.Equal(x.Rows, l) || !slices.Equal(x.Begun, l) || len(x.Marks) != 0 || x.Over || !slices.Equal(x.Schema.Tables, three.Tables) {
			t.Fatalf("Begin of %v is %v", l, x)
		}
	}
}

// P15.2: no rows, nil and empty; MaxRows rows.
func TestBeginAtTheEdges(t *testing.T) {
	for _, l := range [][]api.Row{nil, {}, full()} {
		x, e := begin(t, three, l)
		expect(t, "Begin", e, api.OK)
		if !alike(x, begun(three, l...)) {
			t.Fatalf("Begin of %v is %v", l, x)
		}
	}
	both := rows(at(0, 0, math.MinInt64, long(8)), at(0, 65535, math.MinInt64+5, ""), at(1, 0, math.MaxInt64, ""), at(2, 0, 7, ""))
	x, e := begin(t, ends, both)
	expect(t, "Begin", e, api.OK)
	if !alike(x, begun(ends, both...)) {
		t.Fatalf("Begin of %v is %v", both, x)
	}
}

// P15.2: ErrRow of rows that may not be a list of the schema.
func TestBeginOfRowsThatMayNotBe(t *testing.T) {
	for name, l := range badLists() {
		_, e := begin(t, three, l)
		expect(t, name, e, api.ErrRow)
	}
	_, e := begin(t, example, rows(at(1, 0, 0, "")))
	expect(t, "a table of another schema", e, api.ErrRow)
	_, e = begin(t, ends, rows(at(2, 0, 6, "")))
	expect(t, "bounds of another schema", e, api.ErrRow)
}

// P15.2: ErrSchema ahead of ErrRow.
func TestBeginOfASchemaThatMayNotBe(t *testing.T) {
	for name, s := range badSchemas() {
		for _, l := range goodLists() {
			_, e := begin(t, s, l)
			expect(t, name, e, api.ErrSchema)
		}
		for what, l := range badLists() {
			_, e := begin(t, s, l)
			expect(t, name+", "+what, e, api.ErrSchema)
		}
	}
}
