package record

import (
	"bursary/api"
	"bursary/codec"
	"bursary/octet"
)

// reader reads records. Of what is wrong, or lacking, it gives something all the same, and says so at the end.
type reader struct {
	*octet.Reader
	all   []byte
	wrong bool
}

// read is a record as it stands in all these bytes, and whether they are as such a record's are; whether it may be is not asked here.
func read(b []byte) (api.Rec, bool) {
	r := &reader{Reader: octet.Read(b), all: b}
	out := api.Rec{Kind: int(r.U8()), Lsn: r.U64(), Txn: int(r.U32()), Prev: r.U64()}
	rest, there := r.kinds()[out.Kind]
	if !there {
		return api.Rec{}, false
	}
	rest(&out)
	return out, !r.wrong && r.Err() == api.OK && r.Left() == 0
}

// list is how many parts there are, in one byte, and these.
func list[T any](r *reader, most int, one func() T) []T {
	n := int(r.U8())
	if n > most {
		r.wrong = true
		return nil
	}
	var out []T
	for range n {
		out = append(out, one())
	}
	return out
}

// take is what a taker of codec's takes from the bytes ahead, behind which the reader goes.
func take[T any](r *reader, taker func(b []byte) (T, int, api.Errno)) T {
	x, n, e := taker(r.all[len(r.all)-r.Left():])
	if e != api.OK {
		r.wrong = true
	}
	r.Raw(n)
	return x
}

// kinds is what reads what a record of each Kind has besides.
func (r *reader) kinds() map[int]func(out *api.Rec) {
	return map[int]func(out *api.Rec){
		api.RecBegin:  r.nothing,
		api.RecChange: r.change,
		api.RecNested: r.nested,
		api.RecDone:   r.done,
		api.RecUndone: r.undone,
		api.RecCommit: r.nothing,
		api.RecAbort:  r.nothing,
		api.RecEnd:    r.nothing,
		api.RecCkpt:   r.ckpt,
	}
}

// nothing reads what a record has of whose Kind nothing counts besides.
func (r *reader) nothing(_ *api.Rec) {}

// change reads what pages held, and what they hold.
func (r *reader) change(out *api.Rec) {
	out.Images = list(r, api.MaxImages, r.image)
}

// nested reads from where on the rest is undone.
func (r *reader) nested(out *api.Rec) {
	out.Next = r.U64()
}

// done reads from where on the rest is undone, and by which steps this is.
func (r *reader) done(out *api.Rec) {
	out.Next = r.U64()
	out.Steps = list(r, api.MaxSteps, r.step)
}

// undone reads from where on the rest is undone, and what pages hold.
func (r *reader) undone(out *api.Rec) {
	out.Next = r.U64()
	out.Images = list(r, api.MaxImages, r.after)
}

// ckpt reads what a checkpoint says.
func (r *reader) ckpt(out *api.Rec) {
	out.NextTxn = int(r.U32())
	out.Txns = list(r, api.MaxLive, r.txn)
	out.Dirty = list(r, api.MaxPages, r.dirty)
}

// image is the next page, what it held, and what it holds.
func (r *reader) image() api.Image {
	return api.Image{Page: r.page(), Before: take(r, codec.TakeContent), After: take(r, codec.TakeContent)}
}

// after is the next page, and what it holds.
func (r *reader) after() api.Image {
	return api.Image{Page: r.page(), After: take(r, codec.TakeContent)}
}

// page is the next page's number.
func (r *reader) page() int {
	return int(r.U8())
}

// step is the next step.
func (r *reader) step() api.Step {
	kind := int(r.U8())
	switch kind {
	case api.StepSet, api.StepPut:
		return api.Step{Kind: kind, Row: take(r, codec.TakeRow)}
	case api.StepAdd:
		return api.Step{Kind: kind, Row: r.bare(), By: int64(r.U64())}
	}
	return api.Step{Kind: kind, Row: r.bare()}
}

// bare is a row of which just its key stands next.
func (r *reader) bare() api.Row {
	return api.Row{Key: api.Key{Table: int(r.U8()), Id: r.U16()}}
}

// txn is the next transaction of a checkpoint.
func (r *reader) txn() api.CkTxn {
	return api.CkTxn{Txn: int(r.U32()), First: r.U64(), Last: r.U64(), Undo: r.U64(), State: int(r.U8())}
}

// dirty is the next page of a checkpoint.
func (r *reader) dirty() api.CkPage {
	return api.CkPage{Page: r.page(), Rec: r.U64()}
}
