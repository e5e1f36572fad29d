package chunk_test

import (
	"math"
	"slices"
	"strconv"
	"testing"

	"homestead/api"
	"homestead/bag"
	"homestead/chunk"
)

// cellsBeyond are numbers that are no cell.
func cellsBeyond() []int {
	return []int{math.MinInt, math.MinInt32, -64, -2, -1, 64, 65, 128, 256, 1 << 32, 1<<32 + 9, math.MaxInt}
}

// drops complains unless Drop makes out of a chunk what a text tells.
func drops(t *testing.T, text string, cell int, s string, out string, err api.Errno) {
	t.Helper()
	got, told := chunk.Drop(chunkOf(t, text), cell, slot(t, s))
	is(t, "Drop("+text+", "+strconv.Itoa(cell)+", "+s+")", got, told, out, err)
}

// lifts complains unless Lift makes out of a chunk what a text tells, and tells those slots.
func lifts(t *testing.T, text string, cell int, out, lifted string) {
	t.Helper()
	got, l := chunk.Lift(chunkOf(t, text), cell)
	what := "Lift(" + text + ", " + strconv.Itoa(cell) + ")"
	is(t, what, got, api.OK, out, api.OK)
	if showSlots(l) != lifted {
		t.Errorf("%s: %q, not %q", what, showSlots(l), lifted)
	}
}

// sets complains unless Set makes out of a chunk what a text tells.
func sets(t *testing.T, text string, cell int, i string, out string, err api.Errno) {
	t.Helper()
	got, told := chunk.Set(chunkOf(t, text), cell, itemOf(t, i))
	is(t, "Set("+text+", "+strconv.Itoa(cell)+", "+i+")", got, told, out, err)
}

// fills complains unless Fill makes out of a chunk what a text tells.
func fills(t *testing.T, text string, cell int, l, out string, err api.Errno) {
	t.Helper()
	got, told := chunk.Fill(chunkOf(t, text), cell, slots(t, l))
	is(t, "Fill("+text+", "+strconv.Itoa(cell)+", "+l+")", got, told, out, err)
}

// box complains unless Box tells those slots, and whether there are any.
func box(t *testing.T, text string, cell int, wanted string, there bool) {
	t.Helper()
	if l, told := chunk.Box(chunkOf(t, text), cell); showSlots(l) != wanted || told != there {
		t.Errorf("Box(%s, %d): %q, %t; not %q, %t", text, cell, showSlots(l), told, wanted, there)
	}
}

// The chapter's examples.
func TestExamples(t *testing.T) {
	c, err := chunk.Set(chunkOf(t, "0 0"), 5, api.Chest)
	is(t, "Set", c, err, "0 0 | 5 chest | | 5:", api.OK)
	if l, there := chunk.Box(c, 5); !slices.Equal(l, make([]api.Slot, 6)) || !there {
		t.Errorf("Box: %q, %t", showSlots(l), there)
	}
	c, err = chunk.Fill(c, 5, slots(t, "-, 2 dirt, -, -, -, -"))
	is(t, "Fill", c, err, "0 0 | 5 chest | | 5: -, 2 dirt", api.OK)
	c, err = chunk.Set(c, 5, api.Air)
	is(t, "Set", c, err, "0 0 | 5 chest | | 5: -, 2 dirt", api.ErrRoom)
}

// P11.2: what is dropped is the last heap.
func TestDrop(t *testing.T) {
	drops(t, "0 0", 0, "1 dirt", "0 0 | | 0: 1 dirt", api.OK)
	drops(t, "3 5 | 9 chest | | 9: 4 wood", 9, "16 berry", "3 5 | 9 chest | 9: 16 berry | 9: 4 wood", api.OK)
	drops(t, "0 0 | 1 dirt | 63: 1 pick, 7: 3 dirt", 7, "3 dirt", "0 0 | 1 dirt | 63: 1 pick, 7: 3 dirt, 7: 3 dirt", api.OK)
	drops(t, "0 0 | | 63: 1 pick, 7: 3 dirt", 0, "4 chest", "0 0 | | 63: 1 pick, 7: 3 dirt, 0: 4 chest", api.OK)
	drops(t, "0 0 | | 63: 1 pick", 63, "1 pick", "0 0 | | 63: 1 pick, 63: 1 pick", api.OK)
}

// P11.2: ErrPlace, unless the cell is from 0 to 63.
func TestDropBeyond(t *testing.T) {
	for _, cell := range cellsBeyond() {
		drops(t, farm, cell, "1 dirt", farm, api.ErrPlace)
	}
	for cell := range 64 {
		drops(t, "0 0", cell, "1 dirt", "0 0 | | "+strconv.Itoa(cell)+": 1 dirt", api.OK)
	}
}

// P11.2: ErrCount, unless s is of an item, with N from 1 to what a slot holds.
func TestDropCounts(t *testing.T) {
	stacks := []int{0, 16, 16, 16, 16, 16, 16, 16, 16, 4, 16, 16, 1}
	for i := range math.MaxUint8 + 1 {
		stack := 0
		if i < len(stacks) {
			stack = stacks[i]
		}
		for _, n := range []int{math.MinInt, -1, 0, 1, 2, 3, 4, 5, 15, 16, 17, 256, 1 << 32, 1<<32 + 1, math.MaxInt} {
			s := strconv.Itoa(n) + " " + nameOf(api.Item(i))
			if n >= 1 && n <= stack {
				drops(t, "0 0", 5, s, "0 0 | | 5: "+s, api.OK)
			} else {
				drops(t, "0 0", 5, s, "0 0", api.ErrCount)
			}
		}
	}
}

// P11.2: ErrRoom, if there are 32 heaps.
func TestDropRoom(t *testing.T) {
	c := chunkOf(t, "0 0 | 5 chest | | 5: 1 dirt")
	for n := range 32 {
		out, err := chunk.Drop(c, n*3%64, slot(t, "3 leaf"))
		if err != api.OK || len(out.Heaps) != n+1 || !chunk.Right(out) {
			t.Fatalf("heap %d: %q, error %d", n, show(out), err)
		}
		c = out
	}
	for _, cell := range []int{0, 5, 63} {
		if out, err := chunk.Drop(c, cell, slot(t, "1 dirt")); err != api.ErrRoom || show(out) != show(c) {
			t.Errorf("one more: %q, error %d", show(out), err)
		}
	}
	if c, l := chunk.Lift(c, 3); len(l) != 1 || len(c.Heaps) != 31 {
		t.Errorf("Lift: %q, %q", showSlots(l), show(c))
	} else if c, err := chunk.Drop(c, 3, slot(t, "1 dirt")); err != api.OK || len(c.Heaps) != 32 {
		t.Errorf("Drop behind Lift: %q, error %d", show(c), err)
	}
}

// P11.2: all heaps of a cell are lifted, in order; all others stay, in order.
func TestLift(t *testing.T) {
	lifts(t, "0 0", 0, "0 0", "")
	lifts(t, "0 0 | | 0: 1 dirt", 0, "0 0", "1 dirt")
	lifts(t, "0 0 | | 0: 1 dirt", 1, "0 0 | | 0: 1 dirt", "")
	lifts(t, "0 0 | | 0: 1 dirt, 63: 2 dirt", 63, "0 0 | | 0: 1 dirt", "2 dirt")
	lifts(t, "0 0 | | 4: 3 dirt, 7: 1 pick, 4: 3 dirt, 5: 9 wood, 4: 1 leaf, 7: 2 leaf", 4, "0 0 | | 7: 1 pick, 5: 9 wood, 7: 2 leaf", "3 dirt, 3 dirt, 1 leaf")
	lifts(t, "0 0 | | 4: 3 dirt, 7: 1 pick, 4: 3 dirt, 5: 9 wood, 4: 1 leaf, 7: 2 leaf", 7, "0 0 | | 4: 3 dirt, 4: 3 dirt, 5: 9 wood, 4: 1 leaf", "1 pick, 2 leaf")
	lifts(t, farm, 9, farm, "")
	lifts(t, "3 5 | 9 chest | 9: 1 torch | 9: 1 dirt", 9, "3 5 | 9 chest | | 9: 1 dirt", "1 torch")
	for _, cell := range cellsBeyond() {
		lifts(t, farm, cell, farm, "")
	}
	c, l := chunk.Lift(changed(fullGround(), func(c *api.Chunk) {
		for at := range c.Heaps {
			c.Heaps[at].Cell = 6
		}
	}), 6)
	if len(c.Heaps) != 0 || len(l) != 32 || l[31] != fullGround().Heaps[31].Slot {
		t.Errorf("Lift of all: %q, %q", showSlots(l), show(c))
	}
}

// P11.2: the cell is i, and nothing else changes, heaps on it neither.
func TestSet(t *testing.T) {
	sets(t, "0 0", 0, "dirt", "0 0 | 0 dirt", api.OK)
	sets(t, "0 0 | 0 dirt, 63 ore", 63, "torch", "0 0 | 0 dirt, 63 torch", api.OK)
	sets(t, "0 0 | 0 dirt, 63 ore", 0, "item0", "0 0 | 63 ore", api.OK)
	sets(t, "0 0 | 0 dirt", 0, "dirt", "0 0 | 0 dirt", api.OK)
	sets(t, "0 0", 0, "item0", "0 0", api.OK)
	sets(t, "4 2 | 5 chest, 7 chest | 6: 3 dirt, 5: 2 wood | 5: 1 dirt; 7: 2 dirt", 6, "leaf", "4 2 | 5 chest, 6 leaf, 7 chest | 6: 3 dirt, 5: 2 wood | 5: 1 dirt; 7: 2 dirt", api.OK)
}

// P11.2: of a chest there is an empty box, among the others by rising cells.
func TestSetChest(t *testing.T) {
	sets(t, "0 0", 0, "chest", "0 0 | 0 chest | | 0:", api.OK)
	sets(t, "0 0 | 5 dirt", 5, "chest", "0 0 | 5 chest | | 5:", api.OK)
	boxes := "0 0 | 5 chest, 40 chest | 9: 1 dirt | 5: 1 dirt; 40: 2 dirt"
	sets(t, boxes, 4, "chest", "0 0 | 4 chest, 5 chest, 40 chest | 9: 1 dirt | 4: ; 5: 1 dirt; 40: 2 dirt", api.OK)
	sets(t, boxes, 6, "chest", "0 0 | 5 chest, 6 chest, 40 chest | 9: 1 dirt | 5: 1 dirt; 6: ; 40: 2 dirt", api.OK)
	sets(t, boxes, 9, "chest", "0 0 | 5 chest, 9 chest, 40 chest | 9: 1 dirt | 5: 1 dirt; 9: ; 40: 2 dirt", api.OK)
	sets(t, boxes, 63, "chest", "0 0 | 5 chest, 40 chest, 63 chest | 9: 1 dirt | 5: 1 dirt; 40: 2 dirt; 63:", api.OK)
	c := chunkOf(t, "0 0")
	for n := range 64 {
		out, err := chunk.Set(c, n*27%64, api.Chest)
		if err != api.OK || len(out.Boxes) != n+1 || !chunk.Right(out) {
			t.Fatalf("chest %d: %q, error %d", n, show(out), err)
		}
		c = out
	}
}

// P11.2: a box that is empty is gone when the cell becomes something else; a chest that becomes one stays.
func TestSetOnEmptyBox(t *testing.T) {
	boxes := "0 0 | 5 chest, 6 chest, 40 chest | | 5: 1 dirt; 6: ; 40: 2 dirt"
	sets(t, boxes, 6, "item0", "0 0 | 5 chest, 40 chest | | 5: 1 dirt; 40: 2 dirt", api.OK)
	sets(t, boxes, 6, "wood", "0 0 | 5 chest, 6 wood, 40 chest | | 5: 1 dirt; 40: 2 dirt", api.OK)
	sets(t, boxes, 6, "chest", boxes, api.OK)
	sets(t, "0 0 | 0 chest | | 0:", 0, "plank", "0 0 | 0 plank", api.OK)
	sets(t, "0 0 | 63 chest | | 63:", 63, "item0", "0 0", api.OK)
}

// P11.2: ErrRoom, if the cell is a chest whose box is not empty, whatever it has, and whatever the cell shall be.
func TestSetOnFilledBox(t *testing.T) {
	for _, l := range []string{"1 dirt", "-, 1 pick", "-, -, -, -, -, 1 stick", "16 dirt, 16 dirt, 16 dirt, 16 dirt, 16 dirt, 16 dirt", "-, -, 4 chest"} {
		text := "0 0 | 5 chest, 6 chest | | 5: " + l + "; 6:"
		for _, i := range []string{"item0", "dirt", "stone", "torch", "chest"} {
			sets(t, text, 5, i, text, api.ErrRoom)
		}
	}
}

// P11.2: ErrPlace and ErrItem: all cells about the ends, all 256 values of an item.
func TestSetWrong(t *testing.T) {
	for _, cell := range cellsBeyond() {
		for _, i := range []string{"item0", "dirt", "chest"} {
			sets(t, farm, cell, i, farm, api.ErrPlace)
		}
	}
	blocks := []string{"dirt", "stone", "wood", "leaf", "plank", "ore", "torch"}
	for i := range math.MaxUint8 + 1 {
		name := nameOf(api.Item(i))
		switch {
		case i == 0:
			sets(t, "0 0 | 1 dirt", 1, name, "0 0", api.OK)
		case i == int(api.Chest):
			sets(t, "0 0", 1, name, "0 0 | 1 chest | | 1:", api.OK)
		case slices.Contains(blocks, name):
			sets(t, "0 0", 1, name, "0 0 | 1 "+name, api.OK)
		default:
			sets(t, "0 0", 1, name, "0 0", api.ErrItem)
		}
	}
}

// P11.3: the bag of a cell's box; nothing and false, if there is none.
func TestBox(t *testing.T) {
	box(t, farm, 9, "16 dirt, -, 1 pick, -, -, -", true)
	box(t, farm, 40, "-, -, -, -, -, -", true)
	box(t, farm, 63, "-, -, -, -, -, 4 chest", true)
	for cell := range 64 {
		if cell != 9 && cell != 40 && cell != 63 {
			box(t, farm, cell, "", false)
		}
		l, there := chunk.Box(allChests(), cell)
		if !slices.Equal(l, allChests().Boxes[cell].Bag) || !there {
			t.Errorf("Box at %d: %q, %t", cell, showSlots(l), there)
		}
	}
	for _, cell := range cellsBeyond() {
		box(t, farm, cell, "", false)
	}
	box(t, "0 0", 0, "", false)
}

// P11.3: the box has what is filled in, and the others what they had.
func TestFill(t *testing.T) {
	boxes := "0 0 | 5 chest, 6 chest, 40 chest | 6: 1 dirt | 5: 1 dirt; 6: ; 40: 2 dirt"
	fills(t, boxes, 5, "-, -, -, -, -, 3 ore", "0 0 | 5 chest, 6 chest, 40 chest | 6: 1 dirt | 5: -, -, -, -, -, 3 ore; 6: ; 40: 2 dirt", api.OK)
	fills(t, boxes, 6, "1 dirt, 16 wood, 4 chest, 1 pick, 16 berry, -", "0 0 | 5 chest, 6 chest, 40 chest | 6: 1 dirt | 5: 1 dirt; 6: 1 dirt, 16 wood, 4 chest, 1 pick, 16 berry; 40: 2 dirt", api.OK)
	fills(t, boxes, 40, "-, -, -, -, -, -", "0 0 | 5 chest, 6 chest, 40 chest | 6: 1 dirt | 5: 1 dirt; 6: ; 40:", api.OK)
	fills(t, boxes, 40, "2 dirt, -, -, -, -, -", boxes, api.OK)
	for cell := range 64 {
		c, err := chunk.Fill(allChests(), cell, bagOf(t, "3 leaf"))
		wanted := changed(allChests(), func(c *api.Chunk) { c.Boxes[cell].Bag = bagOf(t, "3 leaf") })
		if err != api.OK || show(c) != show(wanted) {
			t.Errorf("Fill at %d: %q, error %d", cell, show(c), err)
		}
	}
}

// P11.3: ErrPlace, if there is no such box; ErrBag, unless l is a right bag of six slots.
func TestFillWrong(t *testing.T) {
	for _, cell := range append(cellsBeyond(), 0, 7, 8, 10, 39, 41, 62) {
		fills(t, farm, cell, "1 dirt, -, -, -, -, -", farm, api.ErrPlace)
	}
	for _, l := range []string{
		"", "-", "-, -, -, -, -", "-, -, -, -, -, -, -", "-, -, -, -, -, -, -, -", "1 dirt, 1 dirt, 1 dirt, 1 dirt, 1 dirt", "1 dirt, -, -, -, -, -, 1 dirt",
		"17 dirt, -, -, -, -, -", "-, -, -, -, -, 2 pick", "-, 5 chest, -, -, -, -", "-, 0 dirt, -, -, -, -", "-, -1 dirt, -, -, -, -",
		"-, 1 item0, -, -, -, -", "-, 1 item13, -, -, -, -", "-, 0 item13, -, -, -, -", "-, -, -, -, 1 item255, -",
	} {
		fills(t, farm, 9, l, farm, api.ErrBag)
		fills(t, farm, 40, l, farm, api.ErrBag)
	}
}

// P11.2 and P11.3: of a chunk that is not right: ErrChunk, or nothing, and the chunk as it was.
func TestOfWrong(t *testing.T) {
	for what, c := range wrongs(t) {
		for _, cell := range []int{-1, 4, 9, 40, 63, 64} {
			out, err := chunk.Drop(c, cell, slot(t, "1 dirt"))
			wrongStays(t, what+", Drop", c, out, err)
			out, err = chunk.Set(c, cell, api.Dirt)
			wrongStays(t, what+", Set", c, out, err)
			out, err = chunk.Fill(c, cell, bag.New(6))
			wrongStays(t, what+", Fill", c, out, err)
			out, l := chunk.Lift(c, cell)
			wrongStays(t, what+", Lift", c, out, api.ErrChunk)
			if len(l) > 0 {
				t.Errorf("%s, Lift: %q", what, showSlots(l))
			}
			if l, there := chunk.Box(c, cell); len(l) > 0 || there {
				t.Errorf("%s, Box: %q, %t", what, showSlots(l), there)
			}
		}
	}
}

// wrongStays complains unless out is c, and the error ErrChunk.
func wrongStays(t *testing.T, what string, c, out api.Chunk, err api.Errno) {
	t.Helper()
	if show(out) != show(c) || err != api.ErrChunk {
		t.Errorf("%s: %q, error %d; not %q", what, show(out), err, show(c))
	}
}

// first is the error of the first question that is answered wrongly.
func first(wrong []bool, errs []api.Errno) api.Errno {
	if at := slices.Index(wrong, true); at >= 0 {
		return errs[at]
	}
	return api.OK
}

// bits are the lowest bits of n, from the lowest on.
func bits(n, many int) []bool {
	var out []bool
	for at := range many {
		out = append(out, n>>at&1 == 1)
	}
	return out
}

// pick is one of two.
func pick[T any](second bool, a, b T) T {
	if second {
		return b
	}
	return a
}

// Errors: of several ones the first counts, in all combinations.
func TestWhichErrorComesFirst(t *testing.T) {
	for n := range 16 {
		wrong := bits(n, 4)
		ground := changed(pick(wrong[3], chunkOf(t, "0 0"), fullGround()), func(c *api.Chunk) { c.X = pick(wrong[0], 0, 16) })
		_, err := chunk.Drop(ground, pick(wrong[1], 9, 64), slot(t, pick(wrong[2], "1 dirt", "17 dirt")))
		if wanted := first(wrong, []api.Errno{api.ErrChunk, api.ErrPlace, api.ErrCount, api.ErrRoom}); err != wanted {
			t.Errorf("Drop, %v: error %d, not %d", wrong, err, wanted)
		}
		chest := changed(chunkOf(t, pick(wrong[3], "0 0 | 9 chest | | 9:", "0 0 | 9 chest | | 9: 1 dirt")), func(c *api.Chunk) { c.X = pick(wrong[0], 0, 16) })
		_, err = chunk.Set(chest, pick(wrong[1], 9, 64), pick(wrong[2], api.Dirt, api.Stick))
		if wanted := first(wrong, []api.Errno{api.ErrChunk, api.ErrPlace, api.ErrItem, api.ErrRoom}); err != wanted {
			t.Errorf("Set, %v: error %d, not %d", wrong, err, wanted)
		}
		_, err = chunk.Fill(chest, pick(wrong[1], 9, 64), bag.New(pick(wrong[2], 6, 5)))
		if wanted := first(wrong[:3], []api.Errno{api.ErrChunk, api.ErrPlace, api.ErrBag}); err != wanted {
			t.Errorf("Fill, %v: error %d, not %d", wrong, err, wanted)
		}
	}
}
