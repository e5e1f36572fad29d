package chunk_test

import (
	"slices"
	"strconv"
	"sync"
	"testing"

	"homestead/api"
	"homestead/chunk"
)

// whole is l with all of its spare room.
func whole[T any](l []T) []T {
	return l[:cap(l)]
}

// roomy is l in memory that has something behind it.
func roomy[T any](l []T, more T) []T {
	return append(slices.Clone(l), more, more)[:len(l)]
}

// handIn is c in memory of its own, each list with something behind it.
func handIn(c api.Chunk) api.Chunk {
	c = clone(c)
	for at, b := range c.Boxes {
		c.Boxes[at].Bag = roomy(b.Bag, api.Slot{Item: api.Stone, N: 7})
	}
	c.Cells = roomy(c.Cells, api.Stone)
	c.Heaps = roomy(c.Heaps, api.Heap{Cell: 7, Slot: api.Slot{Item: api.Stone, N: 7}})
	c.Boxes = roomy(c.Boxes, api.Box{Cell: 7, Bag: []api.Slot{{Item: api.Stone, N: 7}}})
	return c
}

// showWhole is c as a text, with all that stands in its lists' spare room.
func showWhole(c api.Chunk) string {
	text := show(c)
	c.Cells, c.Heaps, c.Boxes = whole(c.Cells), whole(c.Heaps), slices.Clone(whole(c.Boxes))
	for at, b := range c.Boxes {
		c.Boxes[at].Bag = whole(b.Bag)
	}
	return text + " in " + show(c)
}

// fillUp writes x over all of l, and its spare room.
func fillUp[T any](l []T, x T) {
	for at := range whole(l) {
		whole(l)[at] = x
	}
}

// list is one of a chunk's: it can be written over, its spare room too, and be told as a text.
type list struct {
	spoil func()
	text  func() string
}

// lists are all those of a chunk.
func lists(c api.Chunk) []list {
	out := []list{
		{func() { fillUp(c.Cells, api.Pick) }, func() string { return show(api.Chunk{Cells: whole(c.Cells)}) }},
		{func() { fillUp(c.Heaps, api.Heap{Cell: -1}) }, func() string { return show(api.Chunk{Heaps: whole(c.Heaps)}) }},
	}
	for _, b := range c.Boxes {
		out = append(out, list{func() { fillUp(b.Bag, api.Slot{Item: api.Pick, N: -1}) }, func() string { return showSlots(whole(b.Bag)) }})
	}
	cells := func() string {
		var text string
		for _, b := range whole(c.Boxes) {
			text += strconv.Itoa(b.Cell) + " "
		}
		return text
	}
	return append(out, list{func() { fillUp(c.Boxes, api.Box{Cell: -1}) }, cells})
}

// texts are what lists tell.
func texts(l []list) []string {
	var out []string
	for _, one := range l {
		out = append(out, one.text())
	}
	return out
}

// spoil writes over all lists of a chunk.
func spoil(c api.Chunk) {
	for _, one := range lists(c) {
		one.spoil()
	}
}

// calls are those that answer a chunk: each one done, and each of its errors told, at one chunk or another one.
func calls() map[string]func(c api.Chunk) api.Chunk {
	drop := func(cell int, s api.Slot) func(c api.Chunk) api.Chunk {
		return func(c api.Chunk) api.Chunk { out, _ := chunk.Drop(c, cell, s); return out }
	}
	lift := func(cell int) func(c api.Chunk) api.Chunk {
		return func(c api.Chunk) api.Chunk { out, _ := chunk.Lift(c, cell); return out }
	}
	set := func(cell int, i api.Item) func(c api.Chunk) api.Chunk {
		return func(c api.Chunk) api.Chunk { out, _ := chunk.Set(c, cell, i); return out }
	}
	fill := func(cell int, l ...api.Slot) func(c api.Chunk) api.Chunk {
		return func(c api.Chunk) api.Chunk { out, _ := chunk.Fill(c, cell, l); return out }
	}
	return map[string]func(c api.Chunk) api.Chunk{
		"Drop": drop(9, api.Slot{Item: api.Dirt, N: 1}), "Drop, ErrPlace": drop(64, api.Slot{Item: api.Dirt, N: 1}), "Drop, ErrCount": drop(9, api.Slot{}),
		"Lift": lift(4), "Lift of the last": lift(63), "Lift of none": lift(1), "Lift of no cell": lift(-1),
		"Set": set(0, api.Air), "Set of a chest": set(0, api.Chest), "Set on a chest": set(40, api.Air), "Set of a chest on one": set(40, api.Chest),
		"Set, ErrPlace": set(64, api.Air), "Set, ErrItem": set(0, api.Stick), "Set, ErrRoom": set(9, api.Air),
		"Fill": fill(9, make([]api.Slot, 6)...), "Fill of the last": fill(63, make([]api.Slot, 6)...),
		"Fill, ErrPlace": fill(0, make([]api.Slot, 6)...), "Fill, ErrBag": fill(9),
		"Read": func(c api.Chunk) api.Chunk {
			b, _ := chunk.Bytes(c)
			out, _ := chunk.Read(b)
			return out
		},
	}
}

// shared is a right chunk whose boxes have one bag in one memory.
func shared(t *testing.T) api.Chunk {
	t.Helper()
	return changed(chunkOf(t, "0 0 | 9 chest, 40 chest, 63 chest | 4: 1 dirt | 9: 1 dirt; 40: 1 dirt; 63: 1 dirt"), func(c *api.Chunk) {
		c.Boxes[1].Bag, c.Boxes[2].Bag = c.Boxes[0].Bag, c.Boxes[0].Bag
	})
}

// handed are chunks that those calls are handed, some of them wrong.
func handed(t *testing.T) []api.Chunk {
	t.Helper()
	some := rights(t)
	for _, what := range []string{"nothing", "X 16", "no cells", "cells too many", "heaps too many", "the last box of 7 slots", "boxes backwards", "an empty box more"} {
		some = append(some, wrongs(t)[what])
	}
	return some
}

// R3: what is handed in stays as it is, its spare room too; what is answered, beside an error too, shares no memory with it, nor with another answer.
func TestAnswersAreNew(t *testing.T) {
	for what, call := range calls() {
		for _, c := range handed(t) {
			in := handIn(c)
			as := showWhole(in)
			first, second := call(in), call(in)
			wanted := show(second)
			if show(first) != wanted || showWhole(in) != as {
				t.Errorf("%s of %q: %q, then %q; what was handed in is %q", what, show(c), show(first), wanted, showWhole(in))
			}
			spoil(first)
			if show(second) != wanted || showWhole(in) != as {
				t.Errorf("%s of %q: spoilt: %q; what was handed in is %q", what, show(c), show(second), showWhole(in))
			}
			spoil(in)
			if show(second) != wanted {
				t.Errorf("%s of %q: spoilt: %q, not %q", what, show(c), show(second), wanted)
			}
		}
	}
}

// R3: no two lists of one answer share memory, even if those that were handed in do.
func TestListsOfAnAnswer(t *testing.T) {
	for what, call := range calls() {
		for _, c := range append(handed(t), shared(t)) {
			for at := range lists(call(c)) {
				out := lists(call(c))
				as := texts(out)
				out[at].spoil()
				as[at] = out[at].text()
				if now := texts(out); !slices.Equal(now, as) {
					t.Errorf("%s of %q: by list %d the lists became %q, not %q", what, show(c), at, now, as)
				}
			}
		}
	}
}

// R3: what is changed in one box is not seen in another one, even if both have one bag in one memory.
func TestSharedBag(t *testing.T) {
	c, err := chunk.Fill(shared(t), 40, bagOf(t, "2 wood"))
	is(t, "Fill", c, err, "0 0 | 9 chest, 40 chest, 63 chest | 4: 1 dirt | 9: 1 dirt; 40: 2 wood; 63: 1 dirt", api.OK)
}

// R3: what Fill is handed stays as it is, its spare room too, and is not kept.
func TestFillKeepsNothing(t *testing.T) {
	l := roomy(bagOf(t, "-, 3 dirt, 1 pick"), api.Slot{Item: api.Stone, N: 7})
	as := showSlots(whole(l))
	first, _ := chunk.Fill(chunkOf(t, farm), 40, l)
	second, _ := chunk.Fill(chunkOf(t, farm), 40, l)
	spoil(first)
	if showSlots(whole(l)) != as {
		t.Errorf("%q became %q", as, showSlots(whole(l)))
	}
	fillUp(l, api.Slot{Item: api.Pick, N: -1})
	is(t, "Fill", second, api.OK, "3 5 | 0 dirt, 7 torch, 8 leaf, 9 chest, 40 chest, 41 ore, 63 chest | 4: 3 dirt, 63: 1 pick, 4: 16 berry, 0: 4 chest | 9: 16 dirt, -, 1 pick; 40: -, 3 dirt, 1 pick; 63: -, -, -, -, -, 4 chest", api.OK)
	b := chunkOf(t, farm).Boxes[0].Bag
	c := chunkOf(t, farm)
	c, err := chunk.Fill(c, 40, c.Boxes[0].Bag)
	fillUp(c.Boxes[0].Bag, api.Slot{})
	if err != api.OK || !slices.Equal(c.Boxes[1].Bag, b) {
		t.Errorf("Fill with another box's: %q, error %d", show(c), err)
	}
}

// R3: what Box and Lift tell is new, and is no part of the chunk.
func TestSlotsAreNew(t *testing.T) {
	in := handIn(chunkOf(t, farm))
	as := showWhole(in)
	wrong := api.Slot{Item: api.Pick, N: -1}
	told, _ := chunk.Box(in, 9)
	again, _ := chunk.Box(in, 9)
	fillUp(told, wrong)
	if showWhole(in) != as || showSlots(again) != "16 dirt, -, 1 pick, -, -, -" {
		t.Errorf("Box: %q; what was handed in is %q", showSlots(again), showWhole(in))
	}
	out, lifted := chunk.Lift(in, 4)
	_, second := chunk.Lift(in, 4)
	behind := show(out)
	fillUp(lifted, wrong)
	if showWhole(in) != as || show(out) != behind || showSlots(second) != "3 dirt, 16 berry" {
		t.Errorf("Lift: %q, %q; what was handed in is %q", showSlots(second), show(out), showWhole(in))
	}
	spoil(out)
	spoil(in)
	if showSlots(again) != "16 dirt, -, 1 pick, -, -, -" || showSlots(second) != "3 dirt, 16 berry" {
		t.Errorf("spoilt: %q, %q", showSlots(again), showSlots(second))
	}
}

// R3: what is only asked changes nothing; bytes are new, and those that are read stay as they are, and are not kept.
func TestAskingChangesNothing(t *testing.T) {
	for _, c := range handed(t) {
		in := handIn(c)
		as := showWhole(in)
		chunk.Right(in)
		chunk.Box(in, 9)
		first, _ := chunk.Bytes(in)
		second, _ := chunk.Bytes(in)
		wanted := slices.Clone(second)
		fillUp(first, 255)
		if showWhole(in) != as || !slices.Equal(second, wanted) {
			t.Errorf("%q became %q; Bytes: %v", as, showWhole(in), second)
		}
		b := roomy(second, 7)
		got, _ := chunk.Read(b)
		spoil(got)
		if !slices.Equal(whole(b)[:len(b)+2], append(wanted, 7, 7)) {
			t.Errorf("Read of %v: these are %v", wanted, whole(b))
		}
		got, _ = chunk.Read(b)
		text := show(got)
		fillUp(b, 255)
		if show(got) != text {
			t.Errorf("Read of %v: %q, not %q", wanted, show(got), text)
		}
	}
}

// R4: many may ask of one chunk at once, and are told the same.
func TestManyAsk(t *testing.T) {
	c := chunkOf(t, farm)
	var asking sync.WaitGroup
	for range 8 {
		asking.Go(func() {
			for range 50 {
				for _, call := range calls() {
					spoil(call(c))
				}
			}
		})
	}
	asking.Wait()
	is(t, "the chunk", c, api.OK, farm, api.OK)
}
