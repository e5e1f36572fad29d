package chunk

import (
	"math"

	"homestead/api"
	"homestead/bytes"
)

// Bytes answers a right chunk as bytes.
func Bytes(c api.Chunk) ([]byte, api.Errno) {
	if !Right(c) {
		return nil, api.ErrChunk
	}
	var out []byte
	number := func(n int) { out = bytes.Uint(out, uint64(n)) }
	slot := func(s api.Slot) {
		number(int(s.Item))
		number(s.N)
	}
	number(c.X)
	number(c.Y)
	for _, i := range c.Cells {
		out = append(out, byte(i))
	}
	number(len(c.Heaps))
	for _, h := range c.Heaps {
		number(h.Cell)
		slot(h.Slot)
	}
	for _, b := range c.Boxes {
		for _, s := range b.Bag {
			slot(s)
		}
	}
	return out, api.OK
}

// Read answers the right chunk whose bytes b are.
func Read(b []byte) (api.Chunk, api.Errno) {
	at, failed := 0, false
	// Behind a failure all numbers are noughts, so that whoever reads need not ask each time. Those of right chunks are within a byte, and so within an item.
	number := func() int {
		n, next, err := bytes.GetUint(b, at)
		failed = failed || err != api.OK || n > math.MaxUint8
		if failed {
			return 0
		}
		at = next
		return int(n)
	}
	c := read(number)
	if failed || at != len(b) || !Right(c) {
		return api.Chunk{}, api.ErrChunk
	}
	return c, api.OK
}

// read is the chunk that numbers tell, right or not. Of a cell, which is a byte, the number is the same: one of two bytes would be more than any item.
func read(number func() int) api.Chunk {
	item := func() api.Item { return api.Item(number()) }
	slot := func() api.Slot { return api.Slot{Item: item(), N: number()} }
	c := api.Chunk{X: number(), Y: number()}
	for range cells {
		c.Cells = append(c.Cells, item())
	}
	for range number() {
		c.Heaps = append(c.Heaps, api.Heap{Cell: number(), Slot: slot()})
	}
	for cell, i := range c.Cells {
		if i == api.Chest {
			c.Boxes = append(c.Boxes, api.Box{Cell: cell, Bag: readBag(slot)})
		}
	}
	return c
}

// readBag is the bag that slots tell.
func readBag(slot func() api.Slot) []api.Slot {
	l := make([]api.Slot, api.ChestSlots)
	for at := range l {
		l[at] = slot()
	}
	return l
}
