package file

import (
	"bytes"

	"bursary/api"
	"bursary/codec"
	"bursary/octet"
	"bursary/sum"
)

// ahead is how many bytes of a sector, its page and its part, stand ahead of its stamp.
const ahead = 2

// mark is what all parts that one write laid say alike.
type mark struct {
	page       int
	stamp, lsn uint64
}

// block is the sector of that part of a slot with this mark.
func (m mark) block(part int, data []byte) api.Block {
	b := []byte{byte(m.page), byte(part)}
	b = octet.Put64(b, m.stamp)
	b = octet.Put64(b, m.lsn)
	b = append(b, data...)
	return api.Block(octet.Put32(b, sum.Sum32(b)))
}

// readPart is what a sector says as that part of that page, and whether it is right.
func readPart(num, part int, b api.Block) (mark, []byte, bool) {
	r := octet.Read(b[ahead:])
	m := mark{page: num, stamp: r.U64(), lsn: r.U64()}
	data := r.Raw(api.SlotData)
	// Only a right part is laid as the sector is: page, part and sum need no look of their own.
	return m, data, m.block(part, data) == b
}

// dataOf is a content as the data of a slot's parts together.
func dataOf(c api.Content) ([]byte, api.Errno) {
	b, why := codec.Content(c)
	if why != api.OK {
		return nil, why
	}
	return octet.Fill(append([]byte{byte(len(b))}, b...), api.SlotSectors*api.SlotData)
}

// pieceOf is what that part has of a slot's data.
func pieceOf(data []byte, part int) []byte {
	from := part * api.SlotData
	return data[from : from+api.SlotData]
}

// readData is the content that a slot's data are of, and whether there is one.
func readData(data []byte) (api.Content, bool) {
	c, _, why := codec.TakeContent(data[1:])
	if why != api.OK {
		return api.Content{}, false
	}
	// Unlike contents are laid unlike, so the length and the noughts need no look of their own.
	laid, why := dataOf(c)
	if why != api.OK || !bytes.Equal(laid, data) {
		return api.Content{}, false
	}
	return c, true
}
