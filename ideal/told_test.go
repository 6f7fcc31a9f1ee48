package ideal_test

import (
	"testing"

	"bursary/api"
)

// The chapter's numbers.
func TestNumbers(t *testing.T) {
	if api.MaxMarks != 8 || api.MaxNote != 8 || api.MaxRows != 60 || api.MaxTables != 3 {
		t.Fatal("the limits are not the chapter's")
	}
	if api.ErrRequest != 250 || api.ErrSerial != 251 || api.ErrOver != 252 || api.ErrSchema != 150 || api.ErrRow != 151 || api.ErrBound != 152 || api.ErrNone != 4 || api.ErrThere != 5 || api.ErrFull != 6 {
		t.Fatal("the errors are not the chapter's")
	}
	kinds := []int{api.ReqRead, api.ReqScan, api.ReqInsert, api.ReqDelete, api.ReqNote, api.ReqSet, api.ReqAdd, api.ReqMove, api.ReqMark, api.ReqBack, api.ReqCommit, api.ReqAbort}
	for i, kind := range kinds {
		if kind != i+1 {
			t.Fatalf("the Kind %d is %d", i+1, kind)
		}
	}
}
