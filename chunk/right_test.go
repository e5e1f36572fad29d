package chunk_test

import (
	"math"
	"slices"
	"strconv"
	"testing"

	"homestead/api"
	"homestead/bag"
	"homestead/chunk"
)

// farm is a right chunk that has something of each kind.
const farm = "3 5 | 0 dirt, 7 torch, 8 leaf, 9 chest, 40 chest, 41 ore, 63 chest | 4: 3 dirt, 63: 1 pick, 4: 16 berry, 0: 4 chest | 9: 16 dirt, -, 1 pick; 40: ; 63: -, -, -, -, -, 4 chest"

// rights are right chunks.
func rights(t *testing.T) []api.Chunk {
	t.Helper()
	var out []api.Chunk
	for _, text := range []string{
		"0 0", "15 15", "0 15", "15 0", "7 8 | 0 stone, 63 stone", farm,
		"0 0 | 0 chest | | 0:", "0 0 | 63 chest | | 63: 16 stick, 16 ingot, 16 berry, 1 pick, 4 chest, 16 torch",
		"1 2 | 5 wood | 0: 1 stick, 63: 16 stick, 5: 1 ingot, 5: 1 ingot, 5: 1 pick",
	} {
		out = append(out, chunkOf(t, text))
	}
	return append(out, allChests(), fullGround())
}

// allChests is a chunk whose cells all are chests.
func allChests() api.Chunk {
	c := api.Chunk{X: 1, Y: 1, Cells: slices.Repeat([]api.Item{api.Chest}, 64)}
	for cell := range 64 {
		l := make([]api.Slot, 6)
		l[cell%6] = api.Slot{Item: api.Dirt, N: 1 + cell%16}
		c.Boxes = append(c.Boxes, api.Box{Cell: cell, Bag: l})
	}
	return c
}

// fullGround is a chunk with as many heaps as there may be.
func fullGround() api.Chunk {
	c := api.Chunk{X: 2, Y: 1, Cells: make([]api.Item, 64)}
	for at := range 32 {
		c.Heaps = append(c.Heaps, api.Heap{Cell: at * 2 % 64, Slot: api.Slot{Item: api.Item(1 + at%11), N: 1 + at%4}})
	}
	return c
}

// wrongs are chunks that are not right, each by one thing alone, by what that is.
func wrongs(t *testing.T) map[string]api.Chunk {
	t.Helper()
	out := map[string]api.Chunk{"nothing": {}}
	add := func(what string, change func(c *api.Chunk)) { out[what] = changed(chunkOf(t, farm), change) }
	for _, n := range []int{math.MinInt, -16, -1, 16, 17, 128, 256, 1 << 32, math.MaxInt} {
		add("X "+strconv.Itoa(n), func(c *api.Chunk) { c.X = n })
		add("Y "+strconv.Itoa(n), func(c *api.Chunk) { c.Y = n })
	}
	add("no cells", func(c *api.Chunk) { c.Cells = nil })
	add("cells wanting", func(c *api.Chunk) { c.Cells, c.Boxes = c.Cells[:63], c.Boxes[:2] })
	add("cells too many", func(c *api.Chunk) { c.Cells = append(c.Cells, api.Air) })
	for _, i := range []api.Item{api.Stick, api.Ingot, api.Berry, api.Pick, 13, 14, 128, 255} {
		add("cell of "+nameOf(i), func(c *api.Chunk) { c.Cells[1] = i })
		add("last but one cell of "+nameOf(i), func(c *api.Chunk) { c.Cells[62] = i })
	}
	addWrongHeaps(add)
	addWrongBoxes(t, add)
	return out
}

// addWrongHeaps adds chunks that are wrong by their heaps.
func addWrongHeaps(add func(what string, change func(c *api.Chunk))) {
	heap := func(what string, h api.Heap) {
		add("heap, "+what, func(c *api.Chunk) { c.Heaps[1] = h })
		add("last heap, "+what, func(c *api.Chunk) { c.Heaps[3] = h })
	}
	some := api.Slot{Item: api.Dirt, N: 1}
	for _, cell := range []int{math.MinInt, -64, -1, 64, 65, 256, 1 << 32, math.MaxInt} {
		heap("cell "+strconv.Itoa(cell), api.Heap{Cell: cell, Slot: some})
	}
	for _, s := range []api.Slot{
		{}, {Item: api.Air, N: 1}, {Item: api.Air, N: -1}, {Item: 13, N: 1}, {Item: 255, N: 1}, {Item: 13, N: 0},
		{Item: api.Dirt, N: 0}, {Item: api.Dirt, N: -1}, {Item: api.Dirt, N: 17}, {Item: api.Pick, N: 2}, {Item: api.Chest, N: 5},
		{Item: api.Dirt, N: math.MinInt}, {Item: api.Dirt, N: math.MaxInt}, {Item: api.Dirt, N: 1<<32 + 1},
	} {
		heap(strconv.Itoa(s.N)+" "+nameOf(s.Item), api.Heap{Cell: 5, Slot: s})
	}
	add("heaps too many", func(c *api.Chunk) { c.Heaps = slices.Repeat([]api.Heap{{Cell: 5, Slot: some}}, 33) })
	add("heaps far too many", func(c *api.Chunk) { c.Heaps = slices.Repeat([]api.Heap{{Cell: 5, Slot: some}}, 300) })
}

// addWrongBoxes adds chunks that are wrong by their boxes.
func addWrongBoxes(t *testing.T, add func(what string, change func(c *api.Chunk))) {
	add("no boxes", func(c *api.Chunk) { c.Boxes = nil })
	add("a chest without a box", func(c *api.Chunk) { c.Cells[10] = api.Chest })
	add("a first chest without a box", func(c *api.Chunk) { c.Cells[0] = api.Chest })
	for at, which := range []string{"first", "second", "last"} {
		add("the "+which+" box wanting", func(c *api.Chunk) { c.Boxes = slices.Delete(c.Boxes, at, at+1) })
		add("the "+which+" box twice", func(c *api.Chunk) { c.Boxes = slices.Insert(c.Boxes, at, c.Boxes[at]) })
		for _, i := range []api.Item{api.Air, api.Dirt, api.Torch} {
			add("the "+which+" box at "+nameOf(i), func(c *api.Chunk) { c.Cells[c.Boxes[at].Cell] = i })
		}
		for _, cell := range []int{math.MinInt, -1, 0, 8, 10, 39, 62, 64, 9 + 64, 1 << 32, math.MaxInt} {
			add("the "+which+" box at cell "+strconv.Itoa(cell), func(c *api.Chunk) { c.Boxes[at].Cell = cell })
		}
		for _, n := range []int{0, 1, 5, 7, 8, 12} {
			add("the "+which+" box of "+strconv.Itoa(n)+" slots", func(c *api.Chunk) { c.Boxes[at].Bag = bag.New(n) })
		}
		for _, text := range []string{"17 dirt", "2 pick", "5 chest", "0 dirt", "-1 dirt", "1 item0", "-1 item0", "1 item13", "0 item13", "1 item255"} {
			for slot := range 6 {
				add("the "+which+" box with "+text+" in slot "+strconv.Itoa(slot), func(c *api.Chunk) { c.Boxes[at].Bag[slot] = slots(t, text)[0] })
			}
		}
	}
	add("boxes out of order", func(c *api.Chunk) { c.Boxes[0], c.Boxes[1] = c.Boxes[1], c.Boxes[0] })
	add("boxes backwards", func(c *api.Chunk) { slices.Reverse(c.Boxes) })
	add("one more box ahead", func(c *api.Chunk) { c.Boxes = slices.Insert(c.Boxes, 0, api.Box{Cell: 0, Bag: bag.New(6)}) })
	add("one more box behind", func(c *api.Chunk) { c.Boxes = append(c.Boxes, api.Box{Cell: 64, Bag: bag.New(6)}) })
	add("an empty box more", func(c *api.Chunk) { c.Boxes = append(c.Boxes, api.Box{}) })
}

// Words: what is a right chunk, and what is none.
func TestRight(t *testing.T) {
	for _, c := range rights(t) {
		if !chunk.Right(c) {
			t.Errorf("not right: %q", show(c))
		}
	}
	for what, c := range wrongs(t) {
		if chunk.Right(c) {
			t.Errorf("right, %s: %q", what, show(c))
		}
	}
}

// Words: X and Y from 0 to 15, at each of these.
func TestRightPlaces(t *testing.T) {
	for x := -2; x < 19; x++ {
		for y := -2; y < 19; y++ {
			c := api.Chunk{X: x, Y: y, Cells: make([]api.Item, 64)}
			if right := x >= 0 && x <= 15 && y >= 0 && y <= 15; chunk.Right(c) != right {
				t.Errorf("at %d %d: %t", x, y, !right)
			}
		}
	}
}

// Words: a cell is Air or a block, all 256 values of an item, at each cell.
func TestRightCells(t *testing.T) {
	blocks := []api.Item{api.Air, api.Dirt, api.Stone, api.Wood, api.Leaf, api.Plank, api.Ore, api.Chest, api.Torch}
	for cell := range 64 {
		for i := range math.MaxUint8 + 1 {
			c := api.Chunk{Cells: make([]api.Item, 64)}
			c.Cells[cell] = api.Item(i)
			if i == int(api.Chest) {
				c.Boxes = []api.Box{{Cell: cell, Bag: bag.New(6)}}
			}
			if right := slices.Contains(blocks, api.Item(i)); chunk.Right(c) != right {
				t.Errorf("cell %d of %s: %t", cell, nameOf(api.Item(i)), !right)
			}
		}
	}
}

// Words: a heap is of an item, N from 1 to what a slot holds, at a cell from 0 to 63.
func TestRightHeaps(t *testing.T) {
	stacks := []int{0, 16, 16, 16, 16, 16, 16, 16, 16, 4, 16, 16, 1, 0, 0}
	for i, stack := range stacks {
		for n := -2; n < 20; n++ {
			for _, cell := range []int{-1, 0, 1, 62, 63, 64} {
				c := api.Chunk{Cells: make([]api.Item, 64), Heaps: []api.Heap{{Cell: cell, Slot: api.Slot{Item: api.Item(i), N: n}}}}
				if right := cell >= 0 && cell <= 63 && n >= 1 && n <= stack; chunk.Right(c) != right {
					t.Errorf("heap of %d %s at %d: %t", n, nameOf(api.Item(i)), cell, !right)
				}
			}
		}
	}
	for n := range 70 {
		c := api.Chunk{Cells: make([]api.Item, 64), Heaps: slices.Repeat([]api.Heap{{Slot: api.Slot{Item: api.Dirt, N: 1}}}, n)}
		if right := n <= 32; chunk.Right(c) != right {
			t.Errorf("%d heaps: %t", n, !right)
		}
	}
}
