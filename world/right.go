package world

import (
	"cmp"
	"slices"

	"homestead/api"
	"homestead/bag"
	"homestead/chunk"
)

const (
	maxTick = 1 << 40
	maxId   = 1 << 30
	nobody  = -1 // whom a player deals with that deals with none
)

// Right tells whether w is a right world.
func Right(w api.World) bool {
	return isSize(w.Size) && w.Tick >= 0 && w.Tick <= maxTick && rightChunks(w.Chunks, w.Size) && rightPlayers(w.Players, w.Size)
}

// isSize tells whether a world's side may have so many chunks.
func isSize(size int) bool {
	return size >= 1 && size <= api.MaxSize
}

// isId tells whether a player may have that Id.
func isId(n int) bool {
	return n >= 0 && n <= maxId
}

// within tells whether n is one of the numbers from 0 on, below limit.
func within(n, limit int) bool {
	return n >= 0 && n < limit
}

// rightChunks tells whether these may be a world's chunks.
func rightChunks(l []api.Chunk, size int) bool {
	wrong := func(c api.Chunk) bool { return !rightChunk(c, size) }
	return !slices.ContainsFunc(l, wrong) && rises(l, place)
}

// rightChunk tells whether c may be a chunk of a world.
func rightChunk(c api.Chunk, size int) bool {
	return chunk.Right(c) && c.X < size && c.Y < size
}

// rightPlayers tells whether these may be a world's players.
func rightPlayers(l []api.Player, size int) bool {
	wrong := func(p api.Player) bool { return !rightPlayer(p, size) }
	return len(l) <= api.MaxPlayers && !slices.ContainsFunc(l, wrong) && rises(l, id)
}

// rightPlayer tells whether p may be a player of a world.
func rightPlayer(p api.Player, size int) bool {
	side := size * api.Side
	return isId(p.Id) && within(p.X, side) && within(p.Y, side) && bag.Right(p.Bag, api.BagSlots) && rightDeal(p)
}

// rightDeal tells whether whom p deals with, what it offers and whether it agrees go together.
func rightDeal(p api.Player) bool {
	if p.With == nobody {
		return len(p.Offer) == 0 && !p.Agrees
	}
	return isId(p.With) && p.With != p.Id && bag.Right(p.Offer, api.BagSlots)
}

// place is where a right chunk comes among a world's: row by row.
func place(c api.Chunk) int {
	return c.Y*api.MaxSize + c.X
}

// id is where a player comes among a world's.
func id(p api.Player) int {
	return p.Id
}

// rises tells whether the keys of l rise, none twice.
func rises[T any](l []T, key func(T) int) bool {
	for at := 1; at < len(l); at++ {
		if key(l[at-1]) >= key(l[at]) {
			return false
		}
	}
	return true
}

// search tells where in l, whose keys rise, that of a key stands, or would stand, and whether it is there.
func search[T any](l []T, key func(T) int, wanted int) (int, bool) {
	return slices.BinarySearchFunc(l, wanted, func(one T, wanted int) int { return cmp.Compare(key(one), wanted) })
}
