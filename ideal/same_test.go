package ideal_test

import (
	"slices"
	"testing"

	"bursary/api"
	"bursary/ideal"
)

// checkSameAnswer asks SameAnswer both ways round.
func checkSameAnswer(t *testing.T, name string, a, b api.Answer, want bool) {
	t.Helper()
	inA, inB := a, b
	inA.Rows, inB.Rows = roomy(a.Rows), roomy(b.Rows)
	if ideal.SameAnswer(inA, inB) != want || ideal.SameAnswer(inB, inA) != want {
		t.Fatalf("%s: SameAnswer of %v and %v is not %t", name, a, b, want)
	}
	if !kept(inA.Rows, a.Rows) || !kept(inB.Rows, b.Rows) {
		t.Fatalf("%s: %v and %v are left of %v and %v", name, inA, inB, a, b)
	}
}

// checkSame asks Same both ways round.
func checkSame(t *testing.T, name string, x, y api.Serial, want bool) {
	t.Helper()
	inX, inY := roomySerial(x), roomySerial(y)
	if ideal.Same(inX, inY) != want || ideal.Same(inY, inX) != want {
		t.Fatalf("%s: Same of %v and %v is not %t", name, x, y, want)
	}
	if !keptSerial(inX, x) || !keptSerial(inY, y) {
		t.Fatalf("%s: %v and %v are left of %v and %v", name, inX, inY, x, y)
	}
}

// unlike are the changes of a row in one of its fields each.
func unlike() map[string]func(r *api.Row) {
	return map[string]func(r *api.Row){
		"Table":         func(r *api.Row) { r.Key.Table++ },
		"Table, far up": func(r *api.Row) { r.Key.Table += 1 << 32 },
		"Id":            func(r *api.Row) { r.Key.Id++ },
		"Id, a byte up": func(r *api.Row) { r.Key.Id += 256 },
		"Val":           func(r *api.Row) { r.Val++ },
		"Val, far up":   func(r *api.Row) { r.Val += 1 << 32 },
		"Val, turned":   func(r *api.Row) { r.Val = ^r.Val },
		"Note":          func(r *api.Row) { r.Note += "x" },
		"Note's byte":   func(r *api.Row) { r.Note += "\x00" },
	}
}

// changedLists are lists that differ from this one, each in one row, or by one row.
func changedLists(l []api.Row) map[string][]api.Row {
	out := map[string][]api.Row{
		"one more":         append(slices.Clone(l), at(2, 9, 9, "")),
		"a zero one more":  append(slices.Clone(l), api.Row{}),
		"the last less":    slices.Clone(l[:len(l)-1]),
		"the first less":   slices.Clone(l[1:]),
		"none":             nil,
		"the last twice":   append(slices.Clone(l), l[len(l)-1]),
		"two change sides": append(rows(l[1], l[0]), l[2:]...),
	}
	for name, change := range unlike() {
		for i := range l {
			other := slices.Clone(l)
			change(&other[i])
			out[name] = other
			if i > 0 {
				out[name+", behind the first"] = other
			}
		}
	}
	return out
}

// someAnswers are answers of many kinds, no two the same; some of them no call would give.
func someAnswers() []api.Answer {
	out := []api.Answer{fine, counts(1), counts(2), counts(-1), counts(1 << 32), counts(1<<32 + 1), fails(api.ErrNone), fails(api.ErrFull), fails(-1), fails(1 << 32),
		tells(few()...), tells(few()[0]), tells(api.Row{}), {Err: api.ErrNone, N: 1}, {Err: api.ErrNone, Rows: few()}, {Err: api.ErrNone, Rows: few(), N: 1}, {Rows: few(), N: 1}, {Rows: few()[:1], N: 1}}
	for _, l := range badLists() {
		out = append(out, tells(l...))
	}
	return out
}

// P15.5: an answer is the same as itself, and as a copy, and as no other one.
func TestSameAnswer(t *testing.T) {
	all := someAnswers()
	for i, a := range all {
		for j, b := range all {
			checkSameAnswer(t, "each with each", a, b, i == j)
		}
	}
}

// P15.5: answers that differ in one field, in one row only.
func TestSameAnswerOfOneDifference(t *testing.T) {
	base := api.Answer{Err: api.ErrThere, Rows: few(), N: 3}
	for name, l := range changedLists(few()) {
		checkSameAnswer(t, name, base, api.Answer{Err: base.Err, Rows: l, N: base.N}, false)
	}
	checkSameAnswer(t, "Err", base, api.Answer{Err: base.Err + 1, Rows: few(), N: 3}, false)
	checkSameAnswer(t, "Err OK", base, api.Answer{Rows: few(), N: 3}, false)
	checkSameAnswer(t, "N", base, api.Answer{Err: base.Err, Rows: few(), N: 4}, false)
	checkSameAnswer(t, "N nought", base, api.Answer{Err: base.Err, Rows: few()}, false)
	checkSameAnswer(t, "a copy", base, api.Answer{Err: base.Err, Rows: few(), N: 3}, true)
}

// P15.5: nil and empty lists are the same.
func TestSameOfNilAndEmpty(t *testing.T) {
	if !ideal.SameAnswer(api.Answer{N: 1}, api.Answer{N: 1, Rows: rows()}) || !ideal.SameAnswer(api.Answer{Rows: few()[:0]}, api.Answer{}) {
		t.Fatal("SameAnswer of no rows")
	}
	empty := api.Serial{Schema: api.Schema{Tables: []api.Bounds{}}, Rows: rows(), Begun: rows(), Marks: [][]api.Row{}}
	if !ideal.Same(api.Serial{}, empty) || !ideal.Same(empty, api.Serial{}) {
		t.Fatal("Same of nothing")
	}
	if !ideal.Same(api.Serial{Marks: [][]api.Row{nil, {}}}, api.Serial{Marks: [][]api.Row{{}, nil}}) {
		t.Fatal("Same of savepoints of nothing")
	}
	if ideal.Same(api.Serial{Marks: [][]api.Row{nil}}, api.Serial{}) || ideal.Same(api.Serial{Marks: [][]api.Row{nil}}, api.Serial{Marks: [][]api.Row{nil, nil}}) {
		t.Fatal("Same of one savepoint of nothing, and of another number of them")
	}
}

// P15.5: each transaction is the same as itself, and as a copy, whether it may be or not.
func TestSame(t *testing.T) {
	for name, x := range goodSerials() {
		checkSame(t, name, x, x, true)
		checkSame(t, name, x, roomySerial(x), true)
	}
	for name, x := range badSerials() {
		checkSame(t, name, x, roomySerial(x), true)
	}
}

// P15.5: each with each: the same just where all of both is.
func TestSameOfEachWithEach(t *testing.T) {
	var all []api.Serial
	for _, x := range goodSerials() {
		all = append(all, x)
	}
	for _, x := range badSerials() {
		if len(x.Marks) < 20 && len(x.Rows) < 100 && len(x.Begun) < 100 {
			all = append(all, x)
		}
	}
	for i, x := range all {
		for _, y := range all[:min(i+1, 60)] {
			if got, want := ideal.Same(x, y), alike(x, y); got != want || ideal.Same(y, x) != want {
				t.Fatalf("Same of %v and %v is %t, want %t", x, y, got, want)
			}
		}
	}
}

// P15.5: transactions that differ in one field, in one row, in one savepoint only.
func TestSameOfOneDifference(t *testing.T) {
	base := api.Serial{Schema: three, Rows: few(), Begun: few()[1:], Marks: [][]api.Row{few()[:4], few()[2:], few()}}
	differs := func(name string, change func(x *api.Serial)) {
		t.Helper()
		x := base
		x.Schema.Tables, x.Marks = slices.Clone(base.Schema.Tables), slices.Clone(base.Marks)
		checkSame(t, name, base, x, true)
		change(&x)
		checkSame(t, name, base, x, false)
	}
	for i := range base.Schema.Tables {
		differs("Min", func(x *api.Serial) { x.Schema.Tables[i].Min++ })
		differs("Max", func(x *api.Serial) { x.Schema.Tables[i].Max-- })
	}
	differs("a table less", func(x *api.Serial) { x.Schema.Tables = x.Schema.Tables[:2] })
	differs("a table more", func(x *api.Serial) { x.Schema.Tables = append(x.Schema.Tables, api.Bounds{}) })
	differs("no tables", func(x *api.Serial) { x.Schema.Tables = nil })
	differs("Over", func(x *api.Serial) { x.Over = true })
	for name, l := range changedLists(base.Rows) {
		differs("Rows: "+name, func(x *api.Serial) { x.Rows = l })
	}
	for name, l := range changedLists(base.Begun) {
		differs("Begun: "+name, func(x *api.Serial) { x.Begun = l })
	}
	for i := range base.Marks {
		for name, l := range changedLists(base.Marks[i]) {
			differs("a savepoint: "+name, func(x *api.Serial) { x.Marks[i] = l })
		}
		differs("a savepoint less", func(x *api.Serial) { x.Marks = slices.Delete(x.Marks, i, i+1) })
		differs("a savepoint twice", func(x *api.Serial) { x.Marks = slices.Insert(x.Marks, i, x.Marks[i]) })
		differs("one of no rows", func(x *api.Serial) { x.Marks = slices.Insert(x.Marks, i, nil) })
	}
	differs("two change sides", func(x *api.Serial) { x.Marks[0], x.Marks[1] = x.Marks[1], x.Marks[0] })
	differs("no savepoints", func(x *api.Serial) { x.Marks = nil })
	differs("Rows and Begun change sides", func(x *api.Serial) { x.Rows, x.Begun = x.Begun, x.Rows })
}
