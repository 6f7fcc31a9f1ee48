package record

import (
	"bursary/api"
	"bursary/codec"
	"bursary/octet"
)

// pageBytes is how many bytes a page's number has.
const pageBytes = 1

// writer lays parts one behind the other.
type writer struct {
	out []byte
}

// laid is how a record stands that may be.
func laid(r api.Rec) []byte {
	w := &writer{}
	w.numbers(1, uint64(r.Kind))
	w.numbers(8, r.Lsn)
	w.numbers(4, uint64(r.Txn))
	w.numbers(8, r.Prev)
	w.kinds()[r.Kind](r)
	return w.out
}

// numbers lays numbers, each in so many bytes, at most eight.
func (w *writer) numbers(width int, xs ...uint64) {
	for _, x := range xs {
		w.out = append(w.out, octet.Put64(nil, x)[8-width:]...)
	}
}

// kinds is what lays what a record of each Kind has besides.
func (w *writer) kinds() map[int]func(r api.Rec) {
	return map[int]func(r api.Rec){
		api.RecBegin:  w.nothing,
		api.RecChange: w.change,
		api.RecNested: w.nested,
		api.RecDone:   w.done,
		api.RecUndone: w.undone,
		api.RecCommit: w.nothing,
		api.RecAbort:  w.nothing,
		api.RecEnd:    w.nothing,
		api.RecCkpt:   w.ckpt,
	}
}

// nothing lays what a record has of whose Kind nothing counts besides.
func (w *writer) nothing(_ api.Rec) {}

// change lays what pages held, and what they hold.
func (w *writer) change(r api.Rec) {
	w.numbers(1, uint64(len(r.Images)))
	for _, im := range r.Images {
		w.numbers(pageBytes, uint64(im.Page))
		w.content(im.Before)
		w.content(im.After)
	}
}

// nested lays from where on the rest is undone.
func (w *writer) nested(r api.Rec) {
	w.numbers(8, r.Next)
}

// done lays from where on the rest is undone, and by which steps this is.
func (w *writer) done(r api.Rec) {
	w.numbers(8, r.Next)
	w.numbers(1, uint64(len(r.Steps)))
	for _, s := range r.Steps {
		w.step(s)
	}
}

// undone lays from where on the rest is undone, and what pages hold.
func (w *writer) undone(r api.Rec) {
	w.numbers(8, r.Next)
	w.numbers(1, uint64(len(r.Images)))
	for _, im := range r.Images {
		w.numbers(pageBytes, uint64(im.Page))
		w.content(im.After)
	}
}

// ckpt lays what a checkpoint says.
func (w *writer) ckpt(r api.Rec) {
	w.numbers(4, uint64(r.NextTxn))
	w.numbers(1, uint64(len(r.Txns)))
	for _, t := range r.Txns {
		w.numbers(4, uint64(t.Txn))
		w.numbers(8, t.First, t.Last, t.Undo)
		w.numbers(1, uint64(t.State))
	}
	w.numbers(1, uint64(len(r.Dirty)))
	for _, p := range r.Dirty {
		w.numbers(pageBytes, uint64(p.Page))
		w.numbers(8, p.Rec)
	}
}

// content lays a content that may be.
func (w *writer) content(c api.Content) {
	b, _ := codec.Content(c)
	w.out = append(w.out, b...)
}

// step lays a step that may be.
func (w *writer) step(s api.Step) {
	w.numbers(1, uint64(s.Kind))
	switch s.Kind {
	case api.StepSet, api.StepPut:
		b, _ := codec.Row(s.Row)
		w.out = append(w.out, b...)
		return
	}
	w.numbers(1, uint64(s.Row.Key.Table))
	w.numbers(2, uint64(s.Row.Key.Id))
	if s.Kind == api.StepAdd {
		w.numbers(8, uint64(s.By))
	}
}
