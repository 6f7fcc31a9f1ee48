package file_test

import (
	"testing"

	"bursary/api"
	"bursary/file"
)

// P14.4
func TestBaseAndDisk(t *testing.T) {
	for _, base := range []int{0, 4, 44} {
		for name, do := range makers() {
			d := made(t, 300)
			f, e := do(d, base)
			expect(t, name, e, api.OK)
			ops := d.Ops()
			if f.Base() != base || f.Disk() != d {
				t.Fatalf("%s: Base is %d, want %d; Disk is the disk: %t", name, f.Base(), base, f.Disk() == d)
			}
			f.Write(3, 5, one(3))
			f.Disk().Crash(nil)
			if f.Base() != base || f.Disk() != d || d.Ops() != ops+7 {
				t.Fatalf("%s, behind a Write: Base is %d, %d operations", name, f.Base(), d.Ops()-ops)
			}
		}
	}
	d := dead(t, make([]api.Block, 300))
	if f := open(t, d, 7); f.Base() != 7 || f.Disk() != d {
		t.Fatal("of a dead disk")
	}
}

// P14.2 to P14.4: of nil.
func TestNoFile(t *testing.T) {
	var f *file.File
	if f.Base() != 0 || f.Disk() != nil {
		t.Fatalf("Base %d, Disk %v", f.Base(), f.Disk())
	}
	for _, page := range append(strangePages(), somePages()...) {
		readsNothing(t, "no file", f, page, api.ErrNil)
		for _, c := range append(wrong(), contents()...) {
			expect(t, "Write to no file", f.Write(page, 1, c), api.ErrNil)
		}
	}
}
