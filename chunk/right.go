package chunk

import (
	"slices"

	"homestead/api"
	"homestead/bag"
	"homestead/items"
)

// cells is how many a chunk has.
const cells = api.Side * api.Side

// Right tells whether c is a right chunk.
func Right(c api.Chunk) bool {
	within := func(n int) bool { return n >= 0 && n < api.MaxSize }
	return within(c.X) && within(c.Y) && rightCells(c.Cells) && rightHeaps(c.Heaps) && rightBoxes(c)
}

// rightCells tells whether these may be a chunk's cells.
func rightCells(l []api.Item) bool {
	return len(l) == cells && !slices.ContainsFunc(l, func(i api.Item) bool { return !mayBe(i) })
}

// rightHeaps tells whether these may lie on a chunk's ground.
func rightHeaps(l []api.Heap) bool {
	wrong := func(h api.Heap) bool { return !isPlace(h.Cell) || !isSome(h.Slot) }
	return len(l) <= api.MaxGround && !slices.ContainsFunc(l, wrong)
}

// rightBoxes tells whether c's boxes are those of its chests, one for each, in their order.
func rightBoxes(c api.Chunk) bool {
	rest := c.Boxes
	for cell, i := range c.Cells {
		if i != api.Chest {
			continue
		}
		if len(rest) == 0 || rest[0].Cell != cell || !bag.Right(rest[0].Bag, api.ChestSlots) {
			return false
		}
		rest = rest[1:]
	}
	return len(rest) == 0
}

// isPlace tells whether a cell is one of a chunk's.
func isPlace(cell int) bool {
	return cell >= 0 && cell < cells
}

// mayBe tells whether a cell may be i.
func mayBe(i api.Item) bool {
	return i == api.Air || items.Block(i)
}

// isSome tells whether s is some of an item, as much as a slot may hold.
func isSome(s api.Slot) bool {
	return s.N >= 1 && s.N <= items.Stack(s.Item)
}
