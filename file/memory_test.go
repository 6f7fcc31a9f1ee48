package file_test

import (
	"slices"
	"testing"

	"bursary/api"
)

// roomy is the content with other rows and kids in the room behind the ends of its lists.
func roomy(c api.Content) api.Content {
	rows := append(slices.Clone(c.Rows), at(2, 999, 999, "room"), at(2, 998, 998, "room"))
	kids := append(slices.Clone(c.Kids), on(2, 999, 33), on(2, 998, 34))
	return api.Content{Kind: c.Kind, Rows: rows[:len(c.Rows)], Kids: kids[:len(c.Kids)]}
}

// untouched asks for the content, and for the room behind it, as roomy made them.
func untouched(t *testing.T, c, want api.Content) {
	t.Helper()
	room := roomy(want)
	n, m := len(want.Rows)+2, len(want.Kids)+2
	if !alike(c, want) || !slices.Equal(c.Rows[:n], room.Rows[:n]) || !slices.Equal(c.Kids[:m], room.Kids[:m]) {
		t.Fatalf("Write changed what was handed in: %v, want %v", c, want)
	}
}

// spoil changes all rows and kids of a content, where they stand.
func spoil(c api.Content) {
	for i := range c.Rows {
		c.Rows[i] = at(1, 77, 77, "spoilt")
	}
	for i := range c.Kids {
		c.Kids[i] = on(1, 77, 44)
	}
}

// R3: what is handed in is neither changed nor kept, whether it is written or refused.
func TestWriteKeepsNothing(t *testing.T) {
	f := fileOf(t, 5, [2]pair{})
	for _, want := range contents() {
		c := roomy(want)
		expect(t, "Write", f.Write(5, 7, c), api.OK)
		untouched(t, c, want)
		spoil(c)
		reads(t, "behind a change of what was handed in", f, 5, want, 7)
		c = roomy(want)
		expect(t, "Write of no page", f.Write(64, 7, c), api.ErrArg)
		untouched(t, c, want)
		f.Disk().Fail(5)
		expect(t, "Write that fails", f.Write(5, 8, c), api.ErrIo)
		untouched(t, c, want)
		reads(t, "behind one that fails", f, 5, want, 7)
	}
	for _, want := range wrong() {
		c := roomy(want)
		expect(t, "Write", f.Write(5, 7, c), api.ErrContent)
		untouched(t, c, want)
	}
}

// R3: what is answered shares no memory with the file, nor with what is answered again.
func TestReadAnswersNewMemory(t *testing.T) {
	f := fileOf(t, 5, [2]pair{})
	for _, want := range contents() {
		expect(t, "Write", f.Write(5, 7, want), api.OK)
		a, _, _ := f.Read(5)
		b, _, _ := f.Read(5)
		spoil(a)
		if !alike(b, want) {
			t.Fatalf("two answers share memory: %v, want %v", b, want)
		}
		reads(t, "behind a change of what was answered", f, 5, want, 7)
	}
}

// R5: the same calls are answered the same, and leave the same sectors.
func TestSameCallsSameAnswers(t *testing.T) {
	d, e := holding(t, spoilt(300)), holding(t, spoilt(300))
	for i := range 40 {
		for _, q := range []struct{ arm, fail int }{{-1, -1}, {i % 4, -1}, {-1, i % 8}} {
			d.Arm(q.arm)
			e.Arm(q.arm)
			d.Fail(q.fail)
			e.Fail(q.fail)
			c := contents()[i%len(contents())]
			a, b := open(t, d, base).Write(i%3, uint64(i), c), open(t, e, base).Write(i%3, uint64(i), c)
			if a != b || d.Ops() != e.Ops() {
				t.Fatalf("errors %d and %d, %d and %d operations", a, b, d.Ops(), e.Ops())
			}
			d.Crash([]bool{i%2 == 0, i%3 == 0})
			e.Crash([]bool{i%2 == 0, i%3 == 0})
			sameSectors(t, "behind the same calls", said(d), said(e))
		}
	}
}
