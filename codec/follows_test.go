package codec_test

import (
	"bytes"
	"testing"

	"bursary/api"
	"bursary/codec"
)

// P6.4: what is taken from bytes of a row, and whatever stands behind them, is that row, and as many bytes.
func TestRowsAreTakenBack(t *testing.T) {
	for _, r := range goodRows() {
		b := rowBytes(t, r)
		for _, more := range behind() {
			tookRow(t, bytesOf(b, more), r, len(b))
		}
	}
}

// P6.4: the same of a content.
func TestContentsAreTakenBack(t *testing.T) {
	for _, c := range goodContents() {
		b := contentBytes(t, c)
		for _, more := range behind() {
			got, n, e := codec.TakeContent(bytesOf(b, more))
			expect(t, "TakeContent", e, api.OK)
			if !codec.Same(got, c) || n != len(b) {
				t.Fatalf("%v, laid and taken: %v, %d bytes of %d", c, got, n, len(b))
			}
		}
	}
}

// P6.4: contents that stand one behind the other are taken one behind the other.
func TestContentsInARow(t *testing.T) {
	all := goodContents()
	var b []byte
	for _, c := range all {
		b = append(b, contentBytes(t, c)...)
	}
	for _, c := range all {
		got, n, e := codec.TakeContent(b)
		expect(t, "TakeContent", e, api.OK)
		if !codec.Same(got, c) {
			t.Fatalf("%v, laid and taken: %v", c, got)
		}
		b = b[n:]
	}
	if len(b) != 0 {
		t.Fatalf("%d bytes are left", len(b))
	}
}

// P6.4: the bytes of what was taken are those that were taken, from whatever bytes; and what was taken may be.
func TestWhatWasTakenLaysItsBytes(t *testing.T) {
	var x chance
	rows, contents := 0, 0
	for range 200000 {
		b := make([]byte, x.below(60))
		for i := range b {
			b[i] = byte(x.below(5))
		}
		if r, n, e := codec.TakeRow(b); e == api.OK {
			rows++
			expect(t, "CheckRow", codec.CheckRow(r), api.OK)
			checkBytes(t, "Row", rowBytes(t, r), e, b[:n])
		}
		if c, n, e := codec.TakeContent(b); e == api.OK {
			contents += len(c.Rows) + len(c.Kids)
			expect(t, "Check", codec.Check(c), api.OK)
			checkBytes(t, "Content", contentBytes(t, c), e, b[:n])
		}
	}
	if rows < 1000 || contents < 1000 {
		t.Fatalf("%d rows were taken, and %d parts of contents", rows, contents)
	}
}

// P6.4: less than the bytes is too short.
func TestLessIsTooShort(t *testing.T) {
	for _, r := range goodRows() {
		b := rowBytes(t, r)
		for n := range b {
			noRow(t, b[:n], api.ErrShort)
		}
	}
	for _, c := range goodContents() {
		b := contentBytes(t, c)
		for n := range b {
			noContent(t, b[:n], api.ErrShort)
		}
	}
}

// P6.4: unlike contents have unlike bytes, of which none begin with those of another one.
func TestUnlikeContentsHaveUnlikeBytes(t *testing.T) {
	all := goodContents()
	var laid [][]byte
	for _, c := range all {
		laid = append(laid, contentBytes(t, c))
	}
	for i, a := range laid {
		for j, b := range laid {
			if begins := bytes.HasPrefix(a, b); begins != codec.Same(all[i], all[j]) || begins && len(a) != len(b) {
				t.Fatalf("%v and %v: % X and % X", all[i], all[j], a, b)
			}
		}
	}
}

// P6.4: the same of contents that differ in one field of one row or of one kid.
func TestContentsThatDifferALittle(t *testing.T) {
	for n := 2; n <= 4; n++ {
		for i := range n {
			rows, kids := fullLeaf(n), fullInner(n)
			a, b := contentBytes(t, rows), contentBytes(t, kids)
			for _, change := range []func(){
				func() { rows.Rows[i].Key.Id++ },
				func() { rows.Rows[i].Val++ },
				func() { rows.Rows[i].Val = ^rows.Rows[i].Val },
				func() { rows.Rows[i].Note = long(7) },
				func() { rows.Rows[i].Note = "x" + long(7) },
				func() { rows.Rows = rows.Rows[:n-1] },
			} {
				rows = fullLeaf(n)
				change()
				checkApart(t, a, contentBytes(t, rows))
			}
			for _, change := range []func(){
				func() { kids.Kids[i].Least.Id += uint16(min(i, 1)); kids.Kids[i].Page-- },
				func() { kids.Kids[i].Page -= 10 },
				func() { kids = fullInner(2 + n%3) },
			} {
				kids = fullInner(n)
				change()
				if codec.Check(kids) == api.OK {
					checkApart(t, b, contentBytes(t, kids))
				}
			}
		}
	}
}

// checkApart asks whether neither begins with the other.
func checkApart(t *testing.T, a, b []byte) {
	t.Helper()
	if bytes.HasPrefix(a, b) || bytes.HasPrefix(b, a) {
		t.Fatalf("% X and % X", a, b)
	}
}
