package world_test

import (
	"fmt"
	"slices"
	"testing"

	"homestead/api"
	"homestead/world"
)

// show is a chunk, a player, a world as a text: unlike ones have unlike texts, but that an empty list and none are the same.
func show(x any) string {
	return fmt.Sprintf("%+v", x)
}

// some is a slot with n of an item.
func some(n int, i api.Item) api.Slot {
	return api.Slot{Item: i, N: n}
}

// slots are so many, of which the first ones have something.
func slots(many int, l ...api.Slot) []api.Slot {
	return append(slices.Clone(l), make([]api.Slot, many-len(l))...)
}

// airy is the chunk x, y, all of Air, with a change.
func airy(x, y int, change func(c *api.Chunk)) api.Chunk {
	c := api.Chunk{X: x, Y: y, Cells: make([]api.Item, 64)}
	change(&c)
	return c
}

// stony is the chunk x, y, all of Air but for one cell of Stone.
func stony(x, y, cell int) api.Chunk {
	return airy(x, y, func(c *api.Chunk) { c.Cells[cell] = api.Stone })
}

// farm is the chunk x, y, with something of each kind.
func farm(x, y int) api.Chunk {
	return airy(x, y, func(c *api.Chunk) {
		c.Cells[0], c.Cells[9], c.Cells[40], c.Cells[63] = api.Dirt, api.Chest, api.Chest, api.Torch
		c.Heaps = []api.Heap{{Cell: 4, Slot: some(3, api.Dirt)}, {Cell: 63, Slot: some(1, api.Pick)}, {Cell: 4, Slot: some(16, api.Berry)}}
		c.Boxes = []api.Box{{Cell: 9, Bag: slots(6, some(16, api.Dirt), api.Slot{}, some(1, api.Pick))}, {Cell: 40, Bag: slots(6)}}
	})
}

// alone is a player that deals with nobody.
func alone(id, x, y int, l ...api.Slot) api.Player {
	return api.Player{Id: id, X: x, Y: y, Bag: slots(8, l...), With: -1}
}

// dealing is a player that deals with another one.
func dealing(id, x, y, with int, agrees bool, l ...api.Slot) api.Player {
	return api.Player{Id: id, X: x, Y: y, Bag: slots(8, some(5, api.Wood)), With: with, Offer: slots(8, l...), Agrees: agrees}
}

// clone is w in memory of its own.
func clone(w api.World) api.World {
	w.Chunks, w.Players = slices.Clone(w.Chunks), slices.Clone(w.Players)
	for at, c := range w.Chunks {
		w.Chunks[at] = cloneChunk(c)
	}
	for at, p := range w.Players {
		w.Players[at] = clonePlayer(p)
	}
	return w
}

// cloneChunk is c in memory of its own.
func cloneChunk(c api.Chunk) api.Chunk {
	c.Cells, c.Heaps, c.Boxes = slices.Clone(c.Cells), slices.Clone(c.Heaps), slices.Clone(c.Boxes)
	for at, b := range c.Boxes {
		c.Boxes[at].Bag = slices.Clone(b.Bag)
	}
	return c
}

// clonePlayer is p in memory of its own.
func clonePlayer(p api.Player) api.Player {
	p.Bag, p.Offer = slices.Clone(p.Bag), slices.Clone(p.Offer)
	return p
}

// changed is w with a change, in memory of its own.
func changed(w api.World, change func(w *api.World)) api.World {
	w = clone(w)
	change(&w)
	return w
}

// begin is what New answers, which it has to.
func begin(t *testing.T, size int, seed uint64) api.World {
	t.Helper()
	w, err := world.New(size, seed)
	if err != api.OK {
		t.Fatalf("New(%d, %d): error %d", size, seed, err)
	}
	return w
}

// put is w with chunks, which Put has to take.
func put(t *testing.T, w api.World, l ...api.Chunk) api.World {
	t.Helper()
	for _, c := range l {
		out, err := world.Put(w, c)
		if err != api.OK {
			t.Fatalf("Put of %s: error %d", show(c), err)
		}
		w = out
	}
	return w
}

// set is w with players, which Set has to take.
func set(t *testing.T, w api.World, l ...api.Player) api.World {
	t.Helper()
	for _, p := range l {
		out, err := world.Set(w, p)
		if err != api.OK {
			t.Fatalf("Set of %s: error %d", show(p), err)
		}
		w = out
	}
	return w
}

// is complains unless a world is that one, and its error that one; of what differs it tells where that begins.
func is(t *testing.T, what string, got api.World, err api.Errno, wanted api.World, should api.Errno) {
	t.Helper()
	a, b := show(got), show(wanted)
	if a == b && err == should {
		return
	}
	at := 0
	for at < min(len(a), len(b)) && a[at] == b[at] {
		at++
	}
	about := func(text string) string { return text[max(0, at-100):min(len(text), at+200)] }
	t.Errorf("%s: .. %s .., error %d; not .. %s .., error %d", what, about(a), err, about(b), should)
}

// has complains unless a world's chunks stand at these places, and its players have these Ids.
func has(t *testing.T, what string, w api.World, places [][2]int, ids ...int) {
	t.Helper()
	var at [][2]int
	for _, c := range w.Chunks {
		at = append(at, [2]int{c.X, c.Y})
	}
	var who []int
	for _, p := range w.Players {
		who = append(who, p.Id)
	}
	if !slices.Equal(at, places) || !slices.Equal(who, ids) {
		t.Errorf("%s: chunks at %v and not %v, players %v and not %v", what, at, places, who, ids)
	}
}
