// Package own answers values of package api in memory of their own: no list of an answer shares memory with what was handed in, nor with another list of the answer.
package own

import "homestead/api"

// List is l in memory of its own, with nothing of l's memory kept even if it is empty.
func List[T any](l []T) []T {
	return append([]T(nil), l...)
}

// Chunk is c in memory of its own.
func Chunk(c api.Chunk) api.Chunk {
	c.Cells, c.Heaps, c.Boxes = List(c.Cells), List(c.Heaps), List(c.Boxes)
	for at, b := range c.Boxes {
		c.Boxes[at].Bag = List(b.Bag)
	}
	return c
}

// Player is p in memory of its own.
func Player(p api.Player) api.Player {
	p.Bag, p.Offer = List(p.Bag), List(p.Offer)
	return p
}

// World is w in memory of its own.
func World(w api.World) api.World {
	w.Chunks, w.Players = List(w.Chunks), List(w.Players)
	for at, c := range w.Chunks {
		w.Chunks[at] = Chunk(c)
	}
	for at, p := range w.Players {
		w.Players[at] = Player(p)
	}
	return w
}
