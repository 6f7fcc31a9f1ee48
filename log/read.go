package log

import (
	"iter"

	"bursary/api"
	"bursary/record"
)

// read takes the ring's note, and its entries as records; it tells whether all of them are as a log has them.
func (l *Log) read() bool {
	said, good := readNote(l.ring.Note())
	l.note = said
	saysNext := func(b []byte) bool {
		r, why := record.Decode(b)
		return why == api.OK && r.Lsn == l.Next()
	}
	entries := l.ring.All()
reading:
	for _, b := range entries {
		switch {
		case saysNext(b):
			l.records = append(l.records, b)
		default:
			break reading
		}
	}
	l.flushed = len(l.records)
	return good && l.flushed == len(entries)
}

// mayBe says whether the numbers that were read may be a log's.
func (l *Log) mayBe() bool {
	return l.Base() <= api.MaxLsn && l.master < l.Next() && numbered(l.nextTxn)
}

// from tells the Lsns and the bytes of the records from that Lsn on.
func (l *Log) from(least uint64) iter.Seq2[uint64, []byte] {
	return func(yield func(lsn uint64, b []byte) bool) {
		for nth, b := range l.records {
			lsn := l.Base() + uint64(nth)
			if lsn >= least && !yield(lsn, b) {
				return
			}
		}
	}
}
