package file_test

import (
	"testing"

	"bursary/api"
	"bursary/file"
)

// P14.1 to P14.3, P14.5: the chapter's examples, call by call, all of one file.
func TestExamples(t *testing.T) {
	d := made(t, 300)
	f, e := file.Format(d, 4)
	expect(t, "Format", e, api.OK)
	x, y := leaf(at(0, 1, 5, "x")), leaf(at(1, 2, 6, "y"))

	reads(t, "never written", f, 5, free, 0)
	expect(t, "Write", f.Write(5, 7, x), api.OK)
	reads(t, "written", f, 5, x, 7)

	expect(t, "Arm", d.Arm(1), api.OK)
	expect(t, "Write", f.Write(5, 9, y), api.ErrDead)
	expect(t, "Crash", d.Crash([]bool{true, false}), api.OK)
	reads(t, "written in part", f, 5, x, 7)

	expect(t, "Write", f.Write(5, 9, y), api.OK)
	reads(t, "written again", f, 5, y, 9)
	reads(t, "another page", f, 4, free, 0)

	readsNothing(t, "no page", f, 64, api.ErrArg)
	expect(t, "Write", f.Write(5, 9, api.Content{Kind: 3}), api.ErrContent)
	if f, e := file.Open(d, 45); f != nil || e != api.ErrArg {
		t.Fatalf("Open: %v, error %d", f, e)
	}
}
