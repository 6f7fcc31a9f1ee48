package record

import (
	"bursary/api"
	"bursary/codec"
)

// mayBe says whether a record may be.
func mayBe(r api.Rec) bool {
	if r.Lsn < 1 || r.Lsn > api.MaxLsn || !Same(others(r), api.Rec{}) {
		return false
	}
	switch r.Kind {
	case api.RecBegin:
		return numbered(r.Txn) && r.Prev == 0
	case api.RecChange:
		return chained(r) && len(r.Images) >= 1 && imagesMayBe(r.Images)
	case api.RecNested:
		return chained(r) && r.Next < r.Prev
	case api.RecDone:
		return chained(r) && r.Next < r.Prev && stepsMayBe(r.Steps)
	case api.RecUndone:
		return chained(r) && r.Next < r.Lsn && imagesMayBe(r.Images) && oneSided(r.Images)
	case api.RecCommit, api.RecAbort, api.RecEnd:
		return chained(r)
	case api.RecCkpt:
		return r.Txn == 0 && r.Prev == 0 && numbered(r.NextTxn) && txnsMayBe(r) && dirtyMayBe(r)
	}
	return false
}

// others is a record without its head, and without the fields that its Kind has besides: what is left must be zero.
func others(r api.Rec) api.Rec {
	switch r.Kind {
	case api.RecChange:
		r.Images = nil
	case api.RecNested:
		r.Next = 0
	case api.RecDone:
		r.Next, r.Steps = 0, nil
	case api.RecUndone:
		r.Next, r.Images = 0, nil
	case api.RecCkpt:
		r.NextTxn, r.Txns, r.Dirty = 0, nil, nil
	}
	r.Kind, r.Lsn, r.Txn, r.Prev = 0, 0, 0, 0
	return r
}

// numbered says whether a transaction may have that number.
func numbered(txn int) bool {
	return txn >= 1 && txn <= api.MaxTxn
}

// chained says whether a record is of a transaction, and behind another one of it.
func chained(r api.Rec) bool {
	return numbered(r.Txn) && r.Prev >= 1 && r.Prev < r.Lsn
}

// pagesRise says whether the pages of parts may be, and rise, none twice.
func pagesRise[T any](all []T, page func(p T) int) bool {
	ahead := -1
	for _, p := range all {
		if page(p) <= ahead || page(p) >= api.MaxPages {
			return false
		}
		ahead = page(p)
	}
	return true
}

// imagesMayBe says whether pages may change so together.
func imagesMayBe(images []api.Image) bool {
	if len(images) > api.MaxImages || !pagesRise(images, func(im api.Image) int { return im.Page }) {
		return false
	}
	for _, im := range images {
		if codec.Check(im.Before) != api.OK || codec.Check(im.After) != api.OK {
			return false
		}
	}
	return true
}

// oneSided says whether images say nothing of what pages held.
func oneSided(images []api.Image) bool {
	for _, im := range images {
		if !codec.Same(im.Before, api.Content{}) {
			return false
		}
	}
	return true
}

// stepsMayBe says whether something may be undone by these steps.
func stepsMayBe(steps []api.Step) bool {
	if len(steps) < 1 || len(steps) > api.MaxSteps {
		return false
	}
	for _, s := range steps {
		if !stepMayBe(s) {
			return false
		}
	}
	return true
}

// stepMayBe says whether a step may be.
func stepMayBe(s api.Step) bool {
	if codec.CheckRow(s.Row) != api.OK {
		return false
	}
	bare := s.Row == api.Row{Key: s.Row.Key}
	switch s.Kind {
	case api.StepAdd:
		return bare
	case api.StepSet, api.StepPut:
		return s.By == 0
	case api.StepTake:
		return bare && s.By == 0
	}
	return false
}

// txnsMayBe says whether a checkpoint's transactions may be.
func txnsMayBe(r api.Rec) bool {
	if len(r.Txns) > api.MaxLive {
		return false
	}
	ahead := 0
	for _, t := range r.Txns {
		if t.Txn <= ahead || t.Txn >= r.NextTxn || t.State < api.TxnLive || t.State > api.TxnDone {
			return false
		}
		if t.First < 1 || t.Last < t.First || t.Last >= r.Lsn || t.Undo > t.Last {
			return false
		}
		ahead = t.Txn
	}
	return true
}

// dirtyMayBe says whether a checkpoint's pages may be.
func dirtyMayBe(r api.Rec) bool {
	for _, p := range r.Dirty {
		if p.Rec < 1 || p.Rec >= r.Lsn {
			return false
		}
	}
	return pagesRise(r.Dirty, func(p api.CkPage) int { return p.Page })
}
