package ideal_test

import (
	"fmt"
	"slices"
	"testing"

	"bursary/api"
	"bursary/ideal"
)

// overwrite puts a row that may not be all over a list, and over the room behind its end.
func overwrite(l []api.Row) {
	l = l[:cap(l)]
	for i := range l {
		l[i] = at(-9, 9, -9, "overwritten")
	}
}

// overwriteSchema does so of a schema.
func overwriteSchema(s api.Schema) {
	l := s.Tables[:cap(s.Tables)]
	for i := range l {
		l[i] = api.Bounds{Min: 9, Max: -9}
	}
}

// overwriteSerial does so of all lists of a transaction.
func overwriteSerial(x api.Serial) {
	overwriteSchema(x.Schema)
	overwrite(x.Rows)
	overwrite(x.Begun)
	for _, l := range x.Marks {
		overwrite(l)
	}
	l := x.Marks[:cap(x.Marks)]
	for i := range l {
		l[i] = rows(at(-9, 9, -9, "overwritten"))
	}
}

// outcome is all that a call answers.
type outcome struct {
	x    api.Serial
	rows []api.Row
	a    api.Answer
}

// text is an outcome as a text.
func (o outcome) text() string {
	return fmt.Sprintf("%v %v %v", o.x, o.rows, o.a)
}

// overwrite overwrites all lists of an outcome.
func (o outcome) overwrite() {
	overwriteSerial(o.x)
	overwrite(o.rows)
	overwrite(o.a.Rows)
}

// deed is a call of what a transaction has.
type deed func(x api.Serial) outcome

// someRequests are requests of few rows that are answered with all kinds of things, errors among them.
func someRequests() []api.Request {
	k, none := key(0, 2), key(0, 9)
	return []api.Request{read(k), scan(0), scan(1), insert(none, 5, "n"), remove(k), note(k, "x"), set(k, 1), add(k, 1), move(k, key(0, 1), 1), mark(), back(1), back(2), back(3), commit(), abort(),
		read(none), insert(k, 5, ""), insert(k, 11, ""), remove(none), add(k, 99), move(k, none, 1), back(9), {}, read(key(3, 0)), back(0), {Kind: api.ReqRead, Key: k, N: 1}, {Kind: api.ReqMark, Note: "8"}}
}

// deeds are all calls that answer lists.
func deeds() []deed {
	out := []deed{
		func(x api.Serial) (out outcome) { out.x, out.a.Err = ideal.Begin(x.Schema, x.Rows); return out },
		func(x api.Serial) (out outcome) { out.x, out.a.Err = ideal.Begin(x.Schema, x.Begun); return out },
	}
	for _, q := range someRequests() {
		out = append(out,
			func(x api.Serial) (out outcome) { out.rows, out.a = ideal.Do(x.Schema, x.Rows, q); return out },
			func(x api.Serial) (out outcome) { out.x, out.a = ideal.Step(x, q); return out })
	}
	return out
}

// someSerials are transactions of all states, some of which may not be.
func someSerials(t *testing.T) []api.Serial {
	t.Helper()
	x := marked(t, 3)
	return []api.Serial{begun(three), begun(three, few()...), x, marked(t, api.MaxMarks), goes(t, x, back(2)), goes(t, x, commit()), goes(t, x, abort()),
		{Schema: three, Rows: few(), Begun: full(), Marks: marksOf(5)},
		{Schema: three, Rows: rows(few()[0], few()[0]), Begun: few(), Marks: marksOf(2)},
		{Schema: badSchemas()["a table too many"], Rows: few(), Begun: few(), Marks: marksOf(2)},
		{Schema: three, Rows: few(), Begun: few(), Marks: marksOf(9)},
		{Schema: three, Rows: few(), Begun: few(), Marks: marksOf(3), Over: true}}
}

// R3: what is answered is new memory: what was handed in stays as it is when that is overwritten, and that stays when what was handed in is.
func TestAnswersAreNewMemory(t *testing.T) {
	for _, x := range someSerials(t) {
		for i, do := range deeds() {
			in := roomySerial(x)
			got := do(in)
			want := got.text()
			overwriteSerial(in)
			if got.text() != want {
				t.Fatalf("the deed %d of %v: an answer has changed with what was handed in: %s, want %s", i, x, got.text(), want)
			}
			in = roomySerial(x)
			do(in).overwrite()
			if !keptSerial(in, x) {
				t.Fatalf("the deed %d of %v: what was handed in has changed with the answer: %v", i, x, in)
			}
		}
	}
}

// lists are all lists of rows of an outcome.
func (o outcome) lists() [][]api.Row {
	return append([][]api.Row{o.rows, o.a.Rows, o.x.Rows, o.x.Begun}, o.x.Marks...)
}

// R3: no two lists of one answer share memory, the room behind their ends neither.
func TestListsOfOneAnswerShareNothing(t *testing.T) {
	n := 0
	for _, x := range someSerials(t) {
		for i, do := range deeds() {
			for at := range do(x).lists() {
				got, want := do(roomySerial(x)).lists(), do(x).lists()
				n += len(got[at])
				overwrite(got[at])
				got, want = slices.Delete(got, at, at+1), slices.Delete(want, at, at+1)
				if !alikeLists(got, want) {
					t.Fatalf("the deed %d of %v: %v is left when the list %d is overwritten, want %v", i, x, got, at, want)
				}
			}
		}
	}
	if n < 10000 {
		t.Fatalf("%d rows were overwritten", n)
	}
}

// R3: lists that share memory where they are handed in do not share it in what is answered.
func TestSharedListsHandedIn(t *testing.T) {
	l := few()
	x := api.Serial{Schema: three, Rows: l[:3], Begun: l, Marks: [][]api.Row{l, l[:3], l[3:]}}
	left := x
	left.Rows = with(at(0, 2, 1, "b"))[:3]
	y := checkStep(t, "Set", x, set(key(0, 2), 1), left, fine)
	left.Rows = append(slices.Clone(left.Rows), at(0, 9, 5, ""))
	got, a := ideal.Step(api.Serial{Schema: three, Rows: y.Rows, Begun: l, Marks: [][]api.Row{l, l[:3], l[3:]}}, insert(key(0, 9), 5, ""))
	if a.Err != api.OK || !alike(got, left) || !slices.Equal(l, few()) {
		t.Fatalf("Insert: %v, %v; %v is left", got, a, l)
	}
	got, a = ideal.Step(x, insert(key(0, 9), 5, "")) // in the room behind x.Rows lie the other rows
	if a.Err != api.OK || len(got.Rows) != 4 || !slices.Equal(l, few()) {
		t.Fatalf("Insert: %v, %v; %v is left", got, a, l)
	}
	overwrite(got.Marks[0])
	if !slices.Equal(got.Begun, few()) || !slices.Equal(got.Marks[1], few()[:3]) || !slices.Equal(got.Marks[2], few()[3:]) {
		t.Fatalf("%v is left", got)
	}
	room := make([][]api.Row, 8) // a savepoint comes into no room behind those that were handed in
	x.Marks = append(room[:0], l[:1])
	for _, n := range []int{1, 2} {
		x.Rows = l[:n]
		if y, a := ideal.Step(x, mark()); a.N != 2 || !slices.Equal(y.Marks[1], few()[:n]) || room[1] != nil {
			t.Fatalf("Mark: %v, %v; %v is left", y, a, room)
		}
	}
}

// R3: a savepoint stays as it was, whatever is done to the transaction behind it, by it or by others who have the same one.
func TestSavepointsStay(t *testing.T) {
	x := goes(t, begun(three, few()...), mark())
	kept := x
	for seed := range 20 {
		d := dice(seed*31 + 7)
		y := x
		for range 60 {
			q := someRequest(&d, 12)
			y, _ = ideal.Step(y, q)
			if !slices.Equal(y.Marks[0], few()) || !alike(x, kept) || !slices.Equal(x.Marks[0], few()) || !slices.Equal(x.Rows, few()) {
				t.Fatalf("behind %v: %v, and %v", q, y, x)
			}
		}
	}
}

// R5: the same call answers the same, once more and behind others, and what is answered to others stays.
func TestAnswersStay(t *testing.T) {
	var kept []outcome
	var texts []string
	all := someSerials(t)
	for round := range 3 {
		n := 0
		for _, x := range all {
			for _, do := range deeds() {
				got := do(x)
				if text := got.text(); round == 0 {
					kept, texts = append(kept, got), append(texts, text)
				} else if text != texts[n] {
					t.Fatalf("%s, and once more %s", texts[n], text)
				}
				n++
			}
		}
	}
	for i, got := range kept {
		if got.text() != texts[i] {
			t.Fatalf("an answer has changed behind others: %s, want %s", got.text(), texts[i])
		}
	}
}
