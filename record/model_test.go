package record_test

import (
	"slices"

	"bursary/api"
)

// laidNumber is how a number stands in so many bytes: its digits to the base 256, the highest first.
func laidNumber(width int, x uint64) []byte {
	if width == 0 {
		return nil
	}
	return append(laidNumber(width-1, x/256), byte(x%256))
}

// laidKey is how the chapters say that a key stands.
func laidKey(k api.Key) []byte {
	return append([]byte{byte(k.Table)}, laidNumber(2, uint64(k.Id))...)
}

// laidRow is how the chapters say that a row stands.
func laidRow(r api.Row) []byte {
	return slices.Concat(laidKey(r.Key), laidNumber(8, uint64(r.Val)), []byte{byte(len(r.Note))}, []byte(r.Note))
}

// laidContent is how the chapters say that a content stands.
func laidContent(c api.Content) []byte {
	switch out := []byte{byte(c.Kind)}; c.Kind {
	case api.KindLeaf:
		out = append(out, byte(len(c.Rows)))
		for _, r := range c.Rows {
			out = append(out, laidRow(r)...)
		}
		return out
	case api.KindInner:
		out = append(out, byte(len(c.Kids)))
		for _, k := range c.Kids {
			out = append(append(out, laidKey(k.Least)...), byte(k.Page))
		}
		return out
	default:
		return out
	}
}

// laidStep is how the chapter says that a step stands.
func laidStep(s api.Step) []byte {
	switch kind := []byte{byte(s.Kind)}; s.Kind {
	case api.StepAdd:
		return slices.Concat(kind, laidKey(s.Row.Key), laidNumber(8, uint64(s.By)))
	case api.StepTake:
		return slices.Concat(kind, laidKey(s.Row.Key))
	default:
		return slices.Concat(kind, laidRow(s.Row))
	}
}

// laid is how the chapter says that a record stands.
func laid(r api.Rec) []byte {
	out := slices.Concat([]byte{byte(r.Kind)}, laidNumber(8, r.Lsn), laidNumber(4, uint64(r.Txn)), laidNumber(8, r.Prev))
	if r.Kind == api.RecNested || r.Kind == api.RecDone || r.Kind == api.RecUndone {
		out = append(out, laidNumber(8, r.Next)...)
	}
	switch r.Kind {
	case api.RecChange:
		out = append(out, byte(len(r.Images)))
		for _, im := range r.Images {
			out = slices.Concat(out, []byte{byte(im.Page)}, laidContent(im.Before), laidContent(im.After))
		}
	case api.RecUndone:
		out = append(out, byte(len(r.Images)))
		for _, im := range r.Images {
			out = slices.Concat(out, []byte{byte(im.Page)}, laidContent(im.After))
		}
	case api.RecDone:
		out = append(out, byte(len(r.Steps)))
		for _, s := range r.Steps {
			out = append(out, laidStep(s)...)
		}
	case api.RecCkpt:
		out = append(append(out, laidNumber(4, uint64(r.NextTxn))...), byte(len(r.Txns)))
		for _, x := range r.Txns {
			out = slices.Concat(out, laidNumber(4, uint64(x.Txn)), laidNumber(8, x.First), laidNumber(8, x.Last), laidNumber(8, x.Undo), []byte{byte(x.State)})
		}
		out = append(out, byte(len(r.Dirty)))
		for _, p := range r.Dirty {
			out = slices.Concat(out, []byte{byte(p.Page)}, laidNumber(8, p.Rec))
		}
	}
	return out
}

// sectors is how many sectors of 52 bytes that many bytes need, one at least.
func sectors(n int) int {
	return max(1, (n+51)/52)
}

// cutter cuts bytes off from the front. What is lacking it leaves lacking, once and for all.
type cutter struct {
	b     []byte
	lacks bool
}

// cut is the next n bytes, or noughts.
func (c *cutter) cut(n int) []byte {
	if n > len(c.b) {
		c.lacks, c.b = true, nil
		return make([]byte, n)
	}
	out := c.b[:n]
	c.b = c.b[n:]
	return out
}

// number is the number in the next bytes.
func (c *cutter) number(width int) uint64 {
	var x uint64
	for _, d := range c.cut(width) {
		x = x*256 + uint64(d)
	}
	return x
}

// key is the next key.
func (c *cutter) key() api.Key {
	table := int(c.number(1))
	return api.Key{Table: table, Id: uint16(c.number(2))}
}

// row is the next row.
func (c *cutter) row() api.Row {
	out := api.Row{Key: c.key()}
	out.Val = int64(c.number(8))
	out.Note = string(c.cut(int(c.number(1))))
	return out
}

// content is the next content.
func (c *cutter) content() api.Content {
	out := api.Content{Kind: int(c.number(1))}
	switch out.Kind {
	case api.KindLeaf:
		for range c.number(1) {
			out.Rows = append(out.Rows, c.row())
		}
	case api.KindInner:
		for range c.number(1) {
			k := c.key()
			out.Kids = append(out.Kids, api.Kid{Least: k, Page: int(c.number(1))})
		}
	}
	return out
}

// step is the next step.
func (c *cutter) step() api.Step {
	out := api.Step{Kind: int(c.number(1))}
	switch out.Kind {
	case api.StepAdd:
		out.Row.Key = c.key()
		out.By = int64(c.number(8))
	case api.StepTake:
		out.Row.Key = c.key()
	default:
		out.Row = c.row()
	}
	return out
}

// parsed is what stands in bytes, by the chapter's places, whether that may be or not; and whether they are as many as that has.
func parsed(b []byte) (api.Rec, bool) {
	c := &cutter{b: b}
	out := api.Rec{Kind: int(c.number(1))}
	out.Lsn = c.number(8)
	out.Txn = int(c.number(4))
	out.Prev = c.number(8)
	if out.Kind == api.RecNested || out.Kind == api.RecDone || out.Kind == api.RecUndone {
		out.Next = c.number(8)
	}
	switch out.Kind {
	case api.RecChange, api.RecUndone:
		for range c.number(1) {
			im := api.Image{Page: int(c.number(1))}
			if out.Kind == api.RecChange {
				im.Before = c.content()
			}
			im.After = c.content()
			out.Images = append(out.Images, im)
		}
	case api.RecDone:
		for range c.number(1) {
			out.Steps = append(out.Steps, c.step())
		}
	case api.RecCkpt:
		out.NextTxn = int(c.number(4))
		for range c.number(1) {
			x := api.CkTxn{Txn: int(c.number(4))}
			x.First, x.Last, x.Undo = c.number(8), c.number(8), c.number(8)
			x.State = int(c.number(1))
			out.Txns = append(out.Txns, x)
		}
		for range c.number(1) {
			page := int(c.number(1))
			out.Dirty = append(out.Dirty, api.CkPage{Page: page, Rec: c.number(8)})
		}
	}
	return out, !c.lacks && len(c.b) == 0
}
