package log

import (
	"bursary/api"
	"bursary/octet"
)

// noteBytes is how many bytes a note has, if it has any.
const noteBytes = 12

// note is what the last Truncate said.
type note struct {
	master  uint64
	nextTxn int
}

// unsaid is what there is ahead of all Truncates.
func unsaid() note {
	return note{nextTxn: 1}
}

// readNote is what a ring's note says, and whether it has as many bytes as one may have.
func readNote(b []byte) (note, bool) {
	if len(b) == 0 {
		return unsaid(), true
	}
	r := octet.Read(b)
	return note{master: r.U64(), nextTxn: int(r.U32())}, len(b) == noteBytes
}

// laid is the note's bytes.
func (n note) laid() []byte {
	return words(uint32(n.master>>32), uint32(n.master), uint32(n.nextTxn))
}

// words lays numbers of 32 bits, one behind the other; one of 64 bits is laid as its upper half, and its lower one.
func words(xs ...uint32) []byte {
	var b []byte
	for _, x := range xs {
		b = octet.Put32(b, x)
	}
	return b
}

// numbered says whether a transaction may have that number.
func numbered(txn int) bool {
	return txn >= 1 && txn <= api.MaxTxn
}
