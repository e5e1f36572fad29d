package world_test

import (
	"math"
	"slices"
	"strconv"
	"testing"

	"homestead/api"
	"homestead/gen"
	"homestead/world"
)

// far are numbers that are no place in any world.
func far() []int {
	return []int{math.MinInt, math.MinInt32, -129, -128, -16, -9, -8, -7, -1, 128, 129, 135, 136, 256, 1 << 32, 1<<32 + 1, math.MaxInt - 7, math.MaxInt}
}

// The chapter's examples.
func TestExamples(t *testing.T) {
	w := begin(t, 2, 7)
	if i, there := world.At(w, 0, 15); i != api.Air || !there {
		t.Errorf("At 0 15: %d, %t", i, there)
	}
	if i, there := world.At(w, 16, 0); i != api.Air || there {
		t.Errorf("At 16 0: %d, %t", i, there)
	}
	w = put(t, w, stony(1, 1, 10))
	if i, there := world.At(w, 10, 9); i != api.Stone || !there {
		t.Errorf("At 10 9: %d, %t", i, there)
	}
	has(t, "Put of a chunk", w, [][2]int{{1, 1}})
	w = put(t, w, gen.Chunk(7, 1, 1))
	is(t, "Put of gen's chunk", w, api.OK, api.World{Size: 2, Seed: 7}, api.OK)
}

// P13.1: ErrArg, unless the size is from 1 to 16; else a world without chunks and players, Tick 0.
func TestNew(t *testing.T) {
	for _, seed := range []uint64{0, 1, 7, 1 << 40, 1 << 63, math.MaxUint64} {
		for size := 1; size <= 16; size++ {
			w, err := world.New(size, seed)
			is(t, "New of "+strconv.Itoa(size), w, err, api.World{Size: size, Seed: seed}, api.OK)
			if !world.Right(w) {
				t.Errorf("New(%d, %d) is not right", size, seed)
			}
		}
		for _, size := range []int{math.MinInt, -1 << 32, -16, -1, 0, 17, 18, 32, 256 + 3, 1<<32 + 3, math.MaxInt} {
			w, err := world.New(size, seed)
			is(t, "New of "+strconv.Itoa(size), w, err, api.World{}, api.ErrArg)
		}
	}
}

// chunkIs complains unless a world's chunk is that one.
func chunkIs(t *testing.T, w api.World, x, y int, wanted api.Chunk, there bool) {
	t.Helper()
	if c, told := world.Chunk(w, x, y); show(c) != show(wanted) || told != there {
		t.Errorf("chunk %d %d: %s, %t; not %s, %t", x, y, show(c), told, show(wanted), there)
	}
}

// P13.1: the chunk that it has, or, if it has none, the one at first; none beside the world.
func TestChunk(t *testing.T) {
	w := village()
	had := map[[2]int]api.Chunk{{4, 0}: stony(4, 0, 63), {0, 1}: farm(0, 1), {3, 1}: stony(3, 1, 0), {2, 4}: farm(2, 4)}
	for x := -2; x < 18; x++ {
		for y := -2; y < 18; y++ {
			wanted, there := had[[2]int{x, y}]
			if !there {
				wanted = gen.Chunk(77, x, y)
			}
			if x < 0 || y < 0 || x >= 5 || y >= 5 {
				chunkIs(t, w, x, y, api.Chunk{}, false)
			} else {
				chunkIs(t, w, x, y, wanted, true)
			}
		}
	}
	for _, n := range far() {
		chunkIs(t, w, n, 0, api.Chunk{}, false)
		chunkIs(t, w, 0, n, api.Chunk{}, false)
		chunkIs(t, w, n, n, api.Chunk{}, false)
	}
}

// P13.1: of all chunks of a great world, those that it has, and those of one that has none.
func TestAllChunks(t *testing.T) {
	w := whole()
	for at, c := range w.Chunks {
		chunkIs(t, w, at%16, at/16, c, true)
		chunkIs(t, api.World{Size: 16, Seed: 5}, at%16, at/16, gen.Chunk(5, at%16, at/16), true)
	}
}

// P13.1: the cell of its chunk; Air, and false, beside the world.
func TestAt(t *testing.T) {
	w := village()
	cells := map[[2]int]api.Item{}
	for x := range 40 {
		for y := range 40 {
			cells[[2]int{x, y}] = gen.Cell(77, x, y)
		}
	}
	for _, c := range w.Chunks {
		for at, i := range c.Cells {
			cells[[2]int{c.X*8 + at%8, c.Y*8 + at/8}] = i
		}
	}
	for x := -9; x < 50; x++ {
		for y := -9; y < 50; y++ {
			wanted, within := cells[[2]int{x, y}]
			if i, there := world.At(w, x, y); i != wanted || there != within {
				t.Errorf("At %d %d: %d, %t; not %d, %t", x, y, i, there, wanted, within)
			}
		}
	}
}

// P13.1: the ends of worlds of all sizes, and places far outside.
func TestAtEnds(t *testing.T) {
	for size := 1; size <= 16; size++ {
		w := begin(t, size, 9)
		for _, n := range append(far(), 0, 1, 8*size-2, 8*size-1, 8*size, 8*size+1, 8*size+7) {
			for _, m := range []int{0, 8*size - 1} {
				within := n >= 0 && n < 8*size
				wantedAcross, wantedDown := api.Air, api.Air
				if within {
					wantedAcross, wantedDown = gen.Cell(9, n, m), gen.Cell(9, m, n)
				}
				if i, there := world.At(w, n, m); i != wantedAcross || there != within {
					t.Errorf("of size %d: At %d %d: %d, %t", size, n, m, i, there)
				}
				if i, there := world.At(w, m, n); i != wantedDown || there != within {
					t.Errorf("of size %d: At %d %d: %d, %t", size, m, n, i, there)
				}
			}
		}
	}
}

// P13.1: of a world that is not right there is no chunk, and no cell.
func TestNothingOfWrong(t *testing.T) {
	for what, w := range wrongs() {
		for _, n := range []int{-1, 0, 1, 2, 4, 5, 39} {
			if c, there := world.Chunk(w, n, n); there || show(c) != show(api.Chunk{}) {
				t.Errorf("%s: chunk %d %d: %s, %t", what, n, n, show(c), there)
			}
			if i, there := world.At(w, n, n); there || i != api.Air {
				t.Errorf("%s: At %d %d: %d, %t", what, n, n, i, there)
			}
		}
	}
}

// P13.2: c is w's chunk there, by rising Y, then X, whatever the order in which they come.
func TestPut(t *testing.T) {
	w := put(t, begin(t, 3, 4), stony(1, 1, 5), stony(2, 2, 6), stony(0, 0, 7), stony(2, 0, 8), farm(0, 2), stony(1, 0, 9))
	has(t, "Put", w, [][2]int{{0, 0}, {1, 0}, {2, 0}, {1, 1}, {0, 2}, {2, 2}})
	is(t, "Put", w, api.OK, api.World{Size: 3, Seed: 4, Chunks: []api.Chunk{stony(0, 0, 7), stony(1, 0, 9), stony(2, 0, 8), stony(1, 1, 5), farm(0, 2), stony(2, 2, 6)}}, api.OK)
	for at := range w.Chunks {
		c := stony(w.Chunks[at].X, w.Chunks[at].Y, 60)
		is(t, "Put of another one", put(t, w, c), api.OK, changed(w, func(w *api.World) { w.Chunks[at] = c }), api.OK)
		is(t, "Put of the same", put(t, w, w.Chunks[at]), api.OK, w, api.OK)
		first := gen.Chunk(4, c.X, c.Y)
		is(t, "Put of the one at first", put(t, w, first), api.OK, changed(w, func(w *api.World) { w.Chunks = slices.Delete(w.Chunks, at, at+1) }), api.OK)
	}
	is(t, "Put of the one at first where none is", put(t, w, gen.Chunk(4, 2, 1)), api.OK, w, api.OK)
}

// P13.2: nothing else of the world changes.
func TestPutChangesNothingElse(t *testing.T) {
	w := village()
	for _, c := range []api.Chunk{farm(0, 0), stony(4, 4, 1), stony(1, 1, 1)} {
		at, _ := slices.BinarySearchFunc(w.Chunks, c.Y*16+c.X, func(c api.Chunk, n int) int { return c.Y*16 + c.X - n })
		is(t, "Put", put(t, w, c), api.OK, changed(w, func(w *api.World) { w.Chunks = slices.Insert(w.Chunks, at, c) }), api.OK)
	}
	for _, w := range rights() {
		is(t, "Put of the one at first", put(t, w, farm(0, 0), gen.Chunk(w.Seed, 0, 0)), api.OK, changed(w, func(w *api.World) {
			w.Chunks = slices.DeleteFunc(w.Chunks, func(c api.Chunk) bool { return c.X == 0 && c.Y == 0 })
		}), api.OK)
	}
}

// P13.2: the one at first is that of the world's number and of its place, in all: what differs by anything stays.
func TestPutOfNearlyFirst(t *testing.T) {
	w := begin(t, 16, 4)
	stays := func(what string, x, y int, change func(c *api.Chunk)) {
		t.Helper()
		c := gen.Chunk(4, x, y)
		change(&c)
		is(t, what, put(t, w, c), api.OK, api.World{Size: 16, Seed: 4, Chunks: []api.Chunk{c}}, api.OK)
	}
	for cell := range 64 {
		stays("a cell that is another one", 3, 7, func(c *api.Chunk) {
			if c.Cells[cell] == api.Torch {
				t.Fatal("a torch at first")
			}
			c.Cells[cell] = api.Torch
		})
		stays("a heap", 3, 7, func(c *api.Chunk) { c.Heaps = []api.Heap{{Cell: cell, Slot: some(1, api.Dirt)}} })
		stays("an empty chest", 3, 7, func(c *api.Chunk) {
			c.Cells[cell] = api.Chest
			c.Boxes = []api.Box{{Cell: cell, Bag: slots(6)}}
		})
	}
	stays("that of another place", 3, 15, func(c *api.Chunk) { c.Cells = gen.Chunk(4, 4, 15).Cells })
	stays("that of another number", 3, 15, func(c *api.Chunk) { c.Cells = gen.Chunk(5, 3, 15).Cells })
	stays("that of another row", 3, 14, func(c *api.Chunk) { c.Cells = gen.Chunk(4, 3, 15).Cells })
	for at := range 256 {
		is(t, "the one at first", put(t, w, gen.Chunk(4, at%16, at/16)), api.OK, w, api.OK)
	}
}

// P13.2: chunks as they were at first that are there all the same stay, but where they are put.
func TestPutBesideFirst(t *testing.T) {
	w := api.World{Size: 2, Seed: 3, Chunks: []api.Chunk{gen.Chunk(3, 0, 0), gen.Chunk(3, 1, 0), gen.Chunk(3, 1, 1)}}
	is(t, "Put", put(t, w, stony(0, 1, 2)), api.OK, changed(w, func(w *api.World) { w.Chunks = slices.Insert(w.Chunks, 2, stony(0, 1, 2)) }), api.OK)
	is(t, "Put", put(t, w, gen.Chunk(3, 1, 0)), api.OK, changed(w, func(w *api.World) { w.Chunks = slices.Delete(w.Chunks, 1, 2) }), api.OK)
}

// P13.2: ErrChunk, unless c is right, and its X and Y are below the size: the world as it was.
func TestPutErrors(t *testing.T) {
	for size := 1; size <= 16; size++ {
		w := put(t, begin(t, size, 4), stony(0, 0, 1))
		for n := range 18 {
			for _, c := range []api.Chunk{stony(n, 0, 5), stony(0, n, 5), stony(n, n, 5), gen.Chunk(4, n, 0), gen.Chunk(4, 0, n)} {
				out, err := world.Put(w, c)
				if within := max(c.X, c.Y) < size && len(c.Cells) > 0; within != (err == api.OK) {
					t.Errorf("size %d: Put at %d %d: error %d", size, c.X, c.Y, err)
				}
				if err != api.OK {
					is(t, "Put", out, err, w, api.ErrChunk)
				}
			}
		}
	}
	for what, wrong := range wrongs() {
		for _, c := range wrong.Chunks {
			in := changed(village(), func(w *api.World) { w.Chunks = []api.Chunk{c} })
			if !world.Right(in) {
				out, err := world.Put(village(), c)
				is(t, "Put, "+what, out, err, village(), api.ErrChunk)
			}
		}
	}
}

// playerIs complains unless a world's player is that one.
func playerIs(t *testing.T, w api.World, id int, wanted api.Player, there bool) {
	t.Helper()
	if p, told := world.Player(w, id); show(p) != show(wanted) || told != there {
		t.Errorf("player %d: %s, %t; not %s, %t", id, show(p), told, show(wanted), there)
	}
}

// P13.2: a player, if it is there.
func TestPlayer(t *testing.T) {
	for _, w := range rights() {
		for n := -2; n < 1000; n++ {
			at := slices.IndexFunc(w.Players, func(p api.Player) bool { return p.Id == n })
			if at < 0 {
				playerIs(t, w, n, api.Player{}, false)
			} else {
				playerIs(t, w, n, w.Players[at], true)
			}
		}
	}
	for _, n := range []int{math.MinInt, 1<<30 - 1, 1<<30 + 1, 1 << 32, 1<<32 + 2, math.MaxInt} {
		playerIs(t, village(), n, api.Player{}, false)
	}
	playerIs(t, whole(), 1<<30, whole().Players[1], true)
	playerIs(t, api.World{}, 0, api.Player{}, false)
}

// P13.2: Player does not ask whether the world is right: what it has it has.
func TestPlayerOfWrong(t *testing.T) {
	w := changed(village(), func(w *api.World) {
		slices.Reverse(w.Players)
		w.Tick = -1
	})
	for _, p := range w.Players {
		playerIs(t, w, p.Id, p, true)
	}
	playerIs(t, w, 4, api.Player{}, false)
}

// P13.2: a player is there behind Set, by rising Ids, whatever the order in which they come.
func TestSet(t *testing.T) {
	w := set(t, begin(t, 2, 4), alone(50, 0, 0), alone(3, 15, 15, some(1, api.Pick)), dealing(1<<30, 4, 5, 3, true, some(1, api.Dirt)), alone(0, 1, 1), alone(49, 2, 2))
	has(t, "Set", w, nil, 0, 3, 49, 50, 1<<30)
	is(t, "Set", w, api.OK, api.World{Size: 2, Seed: 4, Players: []api.Player{
		alone(0, 1, 1), alone(3, 15, 15, some(1, api.Pick)), alone(49, 2, 2), alone(50, 0, 0), dealing(1<<30, 4, 5, 3, true, some(1, api.Dirt)),
	}}, api.OK)
	for at, p := range w.Players {
		for _, q := range []api.Player{alone(p.Id, 7, 9, some(3, api.Leaf)), dealing(p.Id, 9, 7, 51, false), dealing(p.Id, 9, 7, 51, true, some(4, api.Chest))} {
			is(t, "Set of another one", set(t, w, q), api.OK, changed(w, func(w *api.World) { w.Players[at] = q }), api.OK)
		}
		is(t, "Set of the same", set(t, w, p), api.OK, w, api.OK)
	}
}

// P13.2: nothing else of the world changes: no other player, not even the one that deals with it, and no chunk.
func TestSetChangesNothingElse(t *testing.T) {
	w := village()
	for _, n := range []int{0, 2, 3, 5, 7, 9, 900, 901} {
		p := alone(n, 3, 3)
		is(t, "Set", set(t, w, p), api.OK, changed(w, func(w *api.World) {
			w.Players = slices.DeleteFunc(w.Players, func(q api.Player) bool { return q.Id == n })
			w.Players = append(w.Players, p)
			slices.SortFunc(w.Players, func(a, b api.Player) int { return a.Id - b.Id })
		}), api.OK)
	}
}

// P13.2: ErrPlayer, unless the player is right, and its place in the world: the world as it was.
func TestSetErrors(t *testing.T) {
	for size := 1; size <= 16; size++ {
		w := set(t, begin(t, size, 4), alone(3, 0, 0))
		for _, n := range append(far(), 0, 8*size-1, 8*size, 8*size+1) {
			for _, p := range []api.Player{alone(3, n, 0), alone(3, 0, n), alone(4, n, 0), alone(4, 0, n)} {
				out, err := world.Set(w, p)
				if within := n >= 0 && n < 8*size; within != (err == api.OK) {
					t.Errorf("size %d: Set at %d %d: error %d", size, p.X, p.Y, err)
				}
				if err != api.OK {
					is(t, "Set", out, err, w, api.ErrPlayer)
				}
			}
		}
	}
	for what, wrong := range wrongs() {
		for _, p := range wrong.Players {
			in := changed(village(), func(w *api.World) { w.Players = []api.Player{p} })
			if !world.Right(in) {
				out, err := world.Set(village(), p)
				is(t, "Set, "+what, out, err, village(), api.ErrPlayer)
			}
		}
	}
}

// P13.2: ErrLong, if there is none of that Id, and there are 32.
func TestSetInACrowd(t *testing.T) {
	w := crowd()
	for _, n := range []int{0, 9, 11, 50, 104, 500, 1 << 30} {
		out, err := world.Set(w, alone(n, 0, 0))
		is(t, "Set of one more", out, err, w, api.ErrLong)
	}
	for at, p := range w.Players {
		q := alone(p.Id, 7, 7, some(4, api.Chest))
		is(t, "Set of one that is there", set(t, w, q), api.OK, changed(w, func(w *api.World) { w.Players[at] = q }), api.OK)
	}
	w = changed(w, func(w *api.World) { w.Players = w.Players[1:] })
	for _, n := range []int{0, 11, 50, 500} {
		if out := set(t, w, alone(n, 0, 0)); len(out.Players) != 32 || !world.Right(out) {
			t.Errorf("Set of %d: %s", n, show(out))
		}
	}
}

// P13.2: ErrState, unless the world is right: it is answered as it was.
func TestOfWrong(t *testing.T) {
	for what, w := range wrongs() {
		out, err := world.Put(w, stony(0, 0, 1))
		is(t, "Put, "+what, out, err, w, api.ErrState)
		out, err = world.Put(w, gen.Chunk(77, 0, 0))
		is(t, "Put, "+what, out, err, w, api.ErrState)
		for _, n := range []int{0, 3, 1000} {
			out, err = world.Set(w, alone(n, 0, 0))
			is(t, "Set, "+what, out, err, w, api.ErrState)
		}
	}
}

// pick is one of two.
func pick[T any](second bool, a, b T) T {
	if second {
		return b
	}
	return a
}

// Errors: of several ones the first counts, in all combinations.
func TestWhichErrorComesFirst(t *testing.T) {
	for n := range 8 {
		state, other, full := n&1 == 1, n&2 == 2, n&4 == 4
		w := changed(pick(full, village(), crowd()), func(w *api.World) { w.Tick = pick(state, 5, -5) })
		wanted := api.OK
		switch {
		case state:
			wanted = api.ErrState
		case other:
			wanted = api.ErrChunk
		}
		if _, err := world.Put(w, pick(other, stony(0, 0, 1), stony(9, 0, 1))); err != wanted {
			t.Errorf("Put, %d: error %d, not %d", n, err, wanted)
		}
		switch {
		case state:
		case other:
			wanted = api.ErrPlayer
		case full:
			wanted = api.ErrLong
		}
		if _, err := world.Set(w, pick(other, alone(1, 0, 0), alone(1, 40, 0))); err != wanted {
			t.Errorf("Set, %d: error %d, not %d", n, err, wanted)
		}
	}
}
