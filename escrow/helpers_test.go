package escrow_test

import (
	"fmt"
	"math"
	"slices"
	"testing"

	"bursary/api"
	"bursary/escrow"
)

// The ends of 64 bits.
const (
	most  = math.MaxInt64
	least = math.MinInt64
)

// bounds and k are those of the chapter's examples; all is bounds that only 64 bits set.
var (
	bounds = api.Bounds{Min: 0, Max: 10}
	all    = api.Bounds{Min: least, Max: most}
	k      = key(0, 7)
)

// key is short for a key.
func key(table int, id uint16) api.Key {
	return api.Key{Table: table, Id: id}
}

// share is short for a share, in the order Lo, Sum, Hi.
func share(txn int, lo, sum, hi int64) api.Share {
	return api.Share{Txn: txn, Sum: sum, Hi: hi, Lo: lo}
}

// pending is short for a pending key.
func pending(k api.Key, value int64, shares ...api.Share) api.Pending {
	return api.Pending{Key: k, Value: value, Shares: shares}
}

// rows is short for an escrow.
func rows(all ...api.Pending) api.Escrow {
	return api.Escrow{Rows: all}
}

// shares is n shares, of the transactions from 1 on, each of which has added 1.
func shares(n int) []api.Share {
	var out []api.Share
	for i := range n {
		out = append(out, share(i+1, 0, 1, 1))
	}
	return out
}

// many is n pending keys of three tables, the Ids of which have room between them; the transaction 5 has added to each.
func many(n int) api.Escrow {
	var out api.Escrow
	for i := range n {
		out.Rows = append(out.Rows, pending(key(3*i/n, uint16(10*i+5)), int64(i%9), share(5, -1, int64(i%3-1), 1)))
	}
	return out
}

// noTxns are numbers that are no transaction's; cut to 32 bits, or further, some would be one.
var noTxns = []int{0, -1, -2, -api.MaxTxn, api.MaxTxn + 1, api.MaxTxn + 2, math.MaxInt32, math.MinInt32, 1<<32 + 1, -1<<32 + 1, math.MaxInt, math.MinInt}

// noTables are places of no table; cut to 32 bits, or further, some would be one.
var noTables = []int{-1, -2, api.MaxTables, api.MaxTables + 1, 256, 1<<16 + 1, 1 << 32, -1 << 32, 1<<32 + 1, math.MaxInt, math.MinInt}

// goodPendings are some that may be.
func goodPendings() map[string]api.Pending {
	return map[string]api.Pending{
		"the chapter's":              pending(k, 4, share(1, 0, 4, 5), share(2, -4, -4, 0)),
		"one share of noughts":       pending(key(0, 0), 0, share(1, 0, 0, 0)),
		"the last of all keys":       pending(key(2, math.MaxUint16), -7, share(3, -1, 0, 1)),
		"the greatest Txn":           pending(k, 4, share(api.MaxTxn, 0, 1, 1)),
		"the least and the greatest": pending(k, 4, share(1, -1, -1, 0), share(api.MaxTxn, 0, 1, 1)),
		"as many as may be":          pending(k, 4, shares(api.MaxShares)...),
		"Sum is Lo":                  pending(k, 4, share(2, -3, -3, 5)),
		"Sum is Hi":                  pending(k, 4, share(2, -3, 5, 5)),
		"Sum is Lo and Hi":           pending(k, 4, share(2, 0, 0, 0)),
		"Sum is below 0":             pending(k, 4, share(2, -3, -2, 0)),
		"Sum is above 0":             pending(k, 4, share(2, 0, 2, 3)),
		"the widest share":           pending(k, 0, share(2, least, 7, most)),
		"the least Sum":              pending(k, 0, share(2, least, least, most)),
		"the greatest Sum":           pending(k, 0, share(2, least, most, most)),
		"the least Value":            pending(k, least, share(2, 0, 1, most)),
		"the greatest Value":         pending(k, most, share(2, least, -1, 0)),
		"the greatest end is most":   pending(k, most-2, share(1, 0, 1, 1), share(2, -5, 0, 1)),
		"the lesser end is least":    pending(k, least+2, share(1, -1, -1, 0), share(2, -1, 0, 5)),
		"most, which two Hi reach":   pending(k, -1, share(1, 0, 0, 1), share(2, 0, 0, most)),
		"least, which two Lo reach":  pending(k, 1, share(1, -1, 0, 0), share(2, least, 0, 0)),
		"two that go over most":      pending(k, least, share(1, 0, most, most), share(2, 0, most, most)),
		"two that go over least":     pending(k, most, share(1, least, least, 0), share(2, -most, -most, 0)),
		"both ends of 64 bits":       pending(k, -1, share(1, -most, 3, most), share(2, 0, 0, 1)),
	}
}

// badPendings are some that may not be, each for one sentence of the chapter's words alone.
func badPendings() map[string]api.Pending {
	out := map[string]api.Pending{
		"no shares":                       pending(k, 4),
		"a share more than may be":        pending(k, 4, shares(api.MaxShares+1)...),
		"300 shares":                      pending(k, 4, shares(300)...),
		"Lo above 0":                      pending(k, 4, share(1, 1, 2, 3)),
		"Lo above 0, the greatest":        pending(k, -9, share(1, most, most, most)),
		"Lo above Sum":                    pending(k, 4, share(1, -1, -2, 3)),
		"Lo above Sum, which is least":    pending(k, 4, share(1, -1, least, 3)),
		"Hi below 0":                      pending(k, 4, share(1, -3, -2, -1)),
		"Hi below 0, the least":           pending(k, 9, share(1, least, least, least)),
		"Hi below Sum":                    pending(k, 4, share(1, -3, 2, 1)),
		"Hi below Sum, which is most":     pending(k, 4, share(1, 0, most, 1)),
		"Lo above 0, the last one's":      pending(k, 4, share(1, 0, 0, 0), share(2, 1, 1, 1)),
		"Hi below 0, the first one's":     pending(k, 4, share(1, -1, -1, -1), share(2, 0, 0, 0)),
		"Lo above Sum, between":           pending(k, 4, share(1, 0, 0, 0), share(2, 0, -1, 0), share(3, 0, 0, 0)),
		"shares out of order":             pending(k, 4, share(2, 0, 1, 1), share(1, 0, 1, 1)),
		"shares out of order at the end":  pending(k, 4, share(1, 0, 1, 1), share(3, 0, 1, 1), share(2, 0, 1, 1)),
		"shares in the order of texts":    pending(k, 4, share(10, 0, 1, 1), share(9, 0, 1, 1)),
		"a share twice":                   pending(k, 4, share(2, 0, 1, 1), share(2, 0, 1, 1)),
		"a share twice, unlike sums":      pending(k, 4, share(2, 0, 1, 1), share(2, -1, -1, 0)),
		"a share twice at the end":        pending(k, 4, share(1, 0, 1, 1), share(2, 0, 1, 1), share(2, 0, 1, 1)),
		"the greater end, by one":         pending(k, most, share(1, 0, 0, 1)),
		"the greater end, of two":         pending(k, most-1, share(1, 0, 0, 1), share(2, -9, 0, 1)),
		"the greater end, far":            pending(k, most, share(1, 0, 0, most), share(2, 0, 0, most)),
		"the greater end, round to 0":     pending(k, 0, share(1, 0, 0, most), share(2, 0, 0, most), share(3, 0, 0, 2)),
		"the greater end, once round":     pending(k, most, share(1, 0, 0, most), share(2, 0, 0, most), share(3, 0, 0, most), share(4, 0, 0, 4)),
		"the greater end, of all shares":  pending(k, most-7, shares(api.MaxShares)...),
		"the lesser end, by one":          pending(k, least, share(1, -1, 0, 0)),
		"the lesser end, of two":          pending(k, least+1, share(1, -1, 0, 0), share(2, -1, 0, 9)),
		"the lesser end, far":             pending(k, least, share(1, least, 0, 0), share(2, least, 0, 0)),
		"the lesser end, round to 0":      pending(k, 0, share(1, least, 0, 0), share(2, least, 0, 0)),
		"the lesser end, though Sums fit": pending(k, least, share(1, -1, 5, 5)),
		"the greater, though Sums fit":    pending(k, most, share(1, -5, -5, 1)),
		"the lesser end of the widest":    pending(k, -1, share(1, least, 0, 0)),
		"the greater end of the widest":   pending(k, 1, share(1, 0, 0, most)),
	}
	for _, no := range noTxns {
		out[fmt.Sprint("Txn ", no, ", alone")] = pending(k, 4, share(no, 0, 1, 1))
		if no < 1 {
			out[fmt.Sprint("Txn ", no, ", ahead")] = pending(k, 4, share(no, 0, 1, 1), share(1, 0, 1, 1))
		} else {
			out[fmt.Sprint("Txn ", no, ", behind")] = pending(k, 4, share(1, 0, 1, 1), share(no, 0, 1, 1))
		}
	}
	for _, no := range noTables {
		out[fmt.Sprint("Table ", no)] = pending(key(no, 7), 4, share(1, 0, 1, 1))
	}
	return out
}

// goodEscrows are some that may be.
func goodEscrows() map[string]api.Escrow {
	one := share(1, 0, 1, 1)
	out := map[string]api.Escrow{
		"none":                      rows(),
		"empty":                     {Rows: []api.Pending{}},
		"two of one table":          rows(pending(key(0, 1), 4, one), pending(key(0, 2), 4, one)),
		"two of two tables":         rows(pending(key(0, 2), 4, one), pending(key(1, 1), 4, one)),
		"the first and the last":    rows(pending(key(0, 0), 4, one), pending(key(2, math.MaxUint16), 4, one)),
		"Ids as numbers, not bytes": rows(pending(key(1, 255), 4, one), pending(key(1, 256), 4, one)),
		"as many as may be":         many(api.MaxPending),
		"all that may be":           full(),
		"three, of several":         rows(pending(key(0, 3), 4, one, share(2, -4, 0, 2)), pending(key(1, 3), -9, share(2, -1, -1, 3)), pending(key(2, 3), 0, one, share(2, 0, 0, 0), share(3, -7, -6, 5))),
	}
	for name, p := range goodPendings() {
		out["one key: "+name] = rows(p)
	}
	return out
}

// full is as many pending keys as may be, of as many shares each.
func full() api.Escrow {
	out := many(api.MaxPending)
	for i := range out.Rows {
		out.Rows[i].Shares = shares(api.MaxShares)
	}
	return out
}

// badEscrows are some that may not be, each for one sentence of the chapter's words alone.
func badEscrows() map[string]api.Escrow {
	a, b, c := pending(key(0, 1), 4, share(1, 0, 1, 1)), pending(key(0, 2), 4, share(1, 0, 1, 1)), pending(key(1, 1), 4, share(1, 0, 1, 1))
	out := map[string]api.Escrow{
		"a key more than may be":   many(api.MaxPending + 1),
		"300 keys":                 many(300),
		"out of order by Id":       rows(b, a),
		"out of order by Table":    rows(c, b),
		"out of order at the end":  rows(a, c, b),
		"falling":                  rows(c, b, a),
		"Ids in the order of text": rows(pending(key(0, 10), 4, share(1, 0, 1, 1)), pending(key(0, 9), 4, share(1, 0, 1, 1))),
		"a key twice":              rows(a, a),
		"a key twice, unlike":      rows(a, pending(a.Key, 5, share(2, -1, 0, 1))),
		"a key twice at the end":   rows(a, b, c, c),
	}
	for name, p := range badPendings() {
		out["one key: "+name] = rows(p)
		if 0 <= p.Key.Table && p.Key.Table < api.MaxTables {
			out["the first of two: "+name] = rows(p, c)
			out["the last of three: "+name] = rows(a, b, p)
		}
	}
	return out
}

// margin is how many items stand in the room behind the end of a roomy list.
const margin = 3

// markShare and markPending stand in that room.
var (
	markShare   = share(77, 77, 77, 77)
	markPending = pending(key(77, 77), 77, markShare)
)

// roomyPending is a copy of a pending key with room behind the end of its shares, which holds marks.
func roomyPending(p api.Pending) api.Pending {
	p.Shares = slices.Concat(p.Shares, slices.Repeat([]api.Share{markShare}, margin))[:len(p.Shares)]
	return p
}

// roomy is a copy of an escrow with room behind the ends of all its lists, which holds marks.
func roomy(e api.Escrow) api.Escrow {
	all := slices.Concat(e.Rows, slices.Repeat([]api.Pending{markPending}, margin))
	for i, p := range all {
		all[i] = roomyPending(p)
	}
	return api.Escrow{Rows: all[:len(e.Rows)]}
}

// samePending says whether both are the same, share by share.
func samePending(p, q api.Pending) bool {
	return p.Key == q.Key && p.Value == q.Value && slices.Equal(p.Shares, q.Shares)
}

// same says whether both are the same, key by key.
func same(a, b api.Escrow) bool {
	return slices.EqualFunc(a.Rows, b.Rows, samePending)
}

// checkPendingUntouched asks whether a roomy pending key, and the room behind its shares, is as it was made.
func checkPendingUntouched(t *testing.T, name string, in, want api.Pending) {
	t.Helper()
	if !samePending(in, want) {
		t.Fatalf("%s: %v is left of %v", name, in, want)
	}
	if room := in.Shares[len(in.Shares):][:margin]; !slices.Equal(room, slices.Repeat([]api.Share{markShare}, margin)) {
		t.Fatalf("%s: %v stands in the room behind %v", name, room, want)
	}
}

// checkUntouched asks whether a roomy escrow, and the room behind its lists, is as it was made.
func checkUntouched(t *testing.T, name string, in, want api.Escrow) {
	t.Helper()
	if len(in.Rows) != len(want.Rows) {
		t.Fatalf("%s: %v is left of %v", name, in, want)
	}
	for i, p := range in.Rows {
		checkPendingUntouched(t, name, p, want.Rows[i])
	}
	for _, p := range in.Rows[len(in.Rows):][:margin] {
		checkPendingUntouched(t, name+": the room behind", p, markPending)
	}
}

// expect holds an error against the one that is wanted.
func expect(t *testing.T, name string, got, want api.Errno) {
	t.Helper()
	if got != want {
		t.Fatalf("%s: error %d, want %d", name, got, want)
	}
}

// checkCheck holds Check of an escrow against the error that is wanted.
func checkCheck(t *testing.T, name string, e api.Escrow, want api.Errno) {
	t.Helper()
	in := roomy(e)
	expect(t, fmt.Sprintf("%s: Check(%v)", name, e), escrow.Check(in), want)
	checkUntouched(t, name, in, e)
}

// checkSame holds Same of two escrows, either way round, against what is wanted.
func checkSame(t *testing.T, name string, a, b api.Escrow, want bool) {
	t.Helper()
	inA, inB := roomy(a), roomy(b)
	if escrow.Same(inA, inB) != want || escrow.Same(inB, inA) != want {
		t.Fatalf("%s: Same(%v, %v) is not %t", name, a, b, want)
	}
	checkUntouched(t, name, inA, a)
	checkUntouched(t, name, inB, b)
}

// checkFind holds Find against the pending key that is wanted.
func checkFind(t *testing.T, name string, e api.Escrow, k api.Key, want api.Pending) {
	t.Helper()
	in := roomy(e)
	got, there := escrow.Find(in, k)
	if !there || !samePending(got, want) {
		t.Fatalf("%s: Find(%v): %v, %t, want %v", name, k, got, there, want)
	}
	checkUntouched(t, name, in, e)
}

// findNone asks Find for nothing.
func findNone(t *testing.T, name string, e api.Escrow, k api.Key) {
	t.Helper()
	in := roomy(e)
	got, there := escrow.Find(in, k)
	if there || !samePending(got, api.Pending{}) {
		t.Fatalf("%s: Find(%v): %v, %t", name, k, got, there)
	}
	checkUntouched(t, name, in, e)
}

// checkEnds holds Ends against those that are wanted.
func checkEnds(t *testing.T, name string, p api.Pending, lesser, now, greater int64) {
	t.Helper()
	in := roomyPending(p)
	a, b, c, err := escrow.Ends(in)
	if err != api.OK || a != lesser || b != now || c != greater {
		t.Fatalf("%s: Ends(%v): %d, %d, %d, error %d, want %d, %d, %d", name, p, a, b, c, err, lesser, now, greater)
	}
	checkPendingUntouched(t, name, in, p)
}

// refuseEnds asks Ends for ErrEscrow, and nothing beside it.
func refuseEnds(t *testing.T, name string, p api.Pending) {
	t.Helper()
	in := roomyPending(p)
	a, b, c, err := escrow.Ends(in)
	if err != api.ErrEscrow || a != 0 || b != 0 || c != 0 {
		t.Fatalf("%s: Ends(%v): %d, %d, %d, error %d", name, p, a, b, c, err)
	}
	checkPendingUntouched(t, name, in, p)
}

// checkAdmit holds Admit against the error that is wanted.
func checkAdmit(t *testing.T, name string, p api.Pending, txn int, d int64, b api.Bounds, want api.Errno) {
	t.Helper()
	in := roomyPending(p)
	if got := escrow.Admit(in, txn, d, b); got != want {
		t.Fatalf("%s: Admit(%v, %d, %d, %v): error %d, want %d", name, p, txn, d, b, got, want)
	}
	checkPendingUntouched(t, name, in, p)
}

// adding is short for an Adding.
func adding(txn int, by, now int64, b api.Bounds) api.Adding {
	return api.Adding{Txn: txn, By: by, Now: now, Bounds: b}
}

// checkAnswer holds an escrow that a call has answered against the one that is wanted, which may be.
func checkAnswer(t *testing.T, name string, got api.Escrow, err api.Errno, want api.Escrow) {
	t.Helper()
	if err != api.OK || !same(got, want) {
		t.Fatalf("%s: %v, error %d, want %v", name, got, err, want)
	}
	expect(t, name+": Check of what came", escrow.Check(got), api.OK)
}

// checkRefused asks for an error, and nothing beside it.
func checkRefused(t *testing.T, name string, got api.Escrow, err, want api.Errno) {
	t.Helper()
	if err != want || len(got.Rows) != 0 {
		t.Fatalf("%s: %v, error %d, want error %d", name, got, err, want)
	}
}

// checkAdd holds the escrow behind an Add against the one that is wanted.
func checkAdd(t *testing.T, e api.Escrow, k api.Key, a api.Adding, want api.Escrow) {
	t.Helper()
	in, name := roomy(e), fmt.Sprintf("%v: Add(%v, %v)", e, k, a)
	got, err := escrow.Add(in, k, a)
	checkAnswer(t, name, got, err, want)
	checkUntouched(t, name, in, e)
}

// refuseAdd asks Add for an error.
func refuseAdd(t *testing.T, name string, e api.Escrow, k api.Key, a api.Adding, want api.Errno) {
	t.Helper()
	in := roomy(e)
	got, err := escrow.Add(in, k, a)
	checkRefused(t, fmt.Sprintf("%s: %v: Add(%v, %v)", name, e, k, a), got, err, want)
	checkUntouched(t, name, in, e)
}

// checkBack holds the escrow behind a Back against the one that is wanted.
func checkBack(t *testing.T, e api.Escrow, k api.Key, txn int, d int64, want api.Escrow) {
	t.Helper()
	in, name := roomy(e), fmt.Sprintf("%v: Back(%v, %d, %d)", e, k, txn, d)
	got, err := escrow.Back(in, k, txn, d)
	checkAnswer(t, name, got, err, want)
	checkUntouched(t, name, in, e)
}

// refuseBack asks Back for an error.
func refuseBack(t *testing.T, name string, e api.Escrow, k api.Key, txn int, d int64, want api.Errno) {
	t.Helper()
	in := roomy(e)
	got, err := escrow.Back(in, k, txn, d)
	checkRefused(t, fmt.Sprintf("%s: %v: Back(%v, %d, %d)", name, e, k, txn, d), got, err, want)
	checkUntouched(t, name, in, e)
}

// checkOver holds the escrow behind an Over against the one that is wanted.
func checkOver(t *testing.T, e api.Escrow, txn int, commits bool, want api.Escrow) {
	t.Helper()
	in, name := roomy(e), fmt.Sprintf("%v: Over(%d, %t)", e, txn, commits)
	got, err := escrow.Over(in, txn, commits)
	checkAnswer(t, name, got, err, want)
	checkUntouched(t, name, in, e)
}

// refuseOver asks Over for an error, whether the transaction commits or not.
func refuseOver(t *testing.T, name string, e api.Escrow, txn int, want api.Errno) {
	t.Helper()
	for _, commits := range []bool{false, true} {
		in := roomy(e)
		got, err := escrow.Over(in, txn, commits)
		checkRefused(t, fmt.Sprintf("%s: %v: Over(%d, %t)", name, e, txn, commits), got, err, want)
		checkUntouched(t, name, in, e)
	}
}

// dice are numbers that hang on how many were thrown alone.
type dice uint32

// throw is a number from 0 on and below n.
func (d *dice) throw(n int) int {
	*d = *d*1664525 + 1013904223
	return int(*d>>16) % n
}

// from is a number from a on and up to b.
func (d *dice) from(a, b int64) int64 {
	return a + int64(d.throw(int(b-a)+1))
}
