package world_test

import (
	"math"
	"slices"
	"strconv"
	"testing"

	"homestead/api"
	"homestead/gen"
	"homestead/world"
)

// village is a right world that has something of each kind.
func village() api.World {
	return api.World{
		Size: 5, Seed: 77, Tick: 300,
		Chunks: []api.Chunk{stony(4, 0, 63), farm(0, 1), stony(3, 1, 0), farm(2, 4)},
		Players: []api.Player{
			alone(2, 39, 0, some(3, api.Dirt), api.Slot{}, some(1, api.Pick)),
			dealing(3, 0, 39, 7, true, some(2, api.Leaf)),
			dealing(7, 8, 8, 3, false),
			alone(900, 8, 8),
		},
	}
}

// crowd is a world with as many players as there may be.
func crowd() api.World {
	w := api.World{Size: 1}
	for n := range 32 {
		w.Players = append(w.Players, alone(10+3*n, n%8, n/8, some(1+n%16, api.Stone)))
	}
	return w
}

// whole is a world of the greatest size, all of whose chunks are other ones than at first.
func whole() api.World {
	w := api.World{Size: 16, Seed: math.MaxUint64, Tick: 1 << 40}
	for y := range 16 {
		for x := range 16 {
			c := gen.Chunk(w.Seed, x, y)
			c.Heaps = []api.Heap{{Cell: (x + y) % 64, Slot: some(1+x, api.Ore)}}
			w.Chunks = append(w.Chunks, c)
		}
	}
	w.Players = []api.Player{alone(0, 127, 127), dealing(1<<30, 0, 0, 0, true, slices.Repeat([]api.Slot{some(16, api.Ingot)}, 8)...)}
	return w
}

// rights are right worlds.
func rights() []api.World {
	return []api.World{
		{Size: 1}, {Size: 16, Seed: 5, Tick: 1 << 40}, village(), crowd(), whole(),
		{Size: 1, Seed: 1 << 63, Chunks: []api.Chunk{stony(0, 0, 9)}, Players: []api.Player{alone(1<<30, 7, 7)}},
		{Size: 2, Seed: 3, Chunks: []api.Chunk{gen.Chunk(3, 1, 0), gen.Chunk(3, 0, 1)}},
		{Size: 3, Seed: 3, Chunks: []api.Chunk{gen.Chunk(3, 2, 2)}, Players: []api.Player{dealing(0, 0, 0, 1<<30, false), dealing(5, 23, 23, 0, true)}},
	}
}

// addWrong adds worlds that are not right by one thing alone.
type addWrong func(what string, change func(w *api.World))

// wrongs are worlds that are not right, each by one thing alone, by what that is.
func wrongs() map[string]api.World {
	out := map[string]api.World{"nothing": {}, "nothing but a seed": {Seed: 7}}
	add := func(what string, change func(w *api.World)) { out[what] = changed(village(), change) }
	for _, n := range []int{math.MinInt, -5, -1, 0, 4, 17, 18, 256, 1 << 32, 1<<32 + 5, math.MaxInt} {
		// At 4 the last chunk and two players are outside.
		add("Size "+strconv.Itoa(n), func(w *api.World) { w.Size = n })
	}
	for _, n := range []int{math.MinInt, -300, -1, 1<<40 + 1, 1 << 53, math.MaxInt} {
		add("Tick "+strconv.Itoa(n), func(w *api.World) { w.Tick = n })
	}
	addWrongChunks(add)
	addWrongOrders(add)
	addWrongPlayers(add)
	addWrongDeals(add)
	return out
}

// addWrongChunks adds worlds that are wrong by one of their chunks.
func addWrongChunks(add addWrong) {
	for at := range village().Chunks {
		chunk := func(what string, change func(c *api.Chunk)) {
			add("chunk "+strconv.Itoa(at)+": "+what, func(w *api.World) { change(&w.Chunks[at]) })
		}
		for _, n := range []int{math.MinInt, -1, 5, 6, 15, 16, 1 << 32, math.MaxInt} {
			chunk("X "+strconv.Itoa(n), func(c *api.Chunk) { c.X = n })
			chunk("Y "+strconv.Itoa(n), func(c *api.Chunk) { c.Y = n })
		}
		chunk("nothing", func(c *api.Chunk) { *c = api.Chunk{} })
		chunk("no cells", func(c *api.Chunk) { c.Cells, c.Boxes = nil, nil })
		chunk("a cell too many", func(c *api.Chunk) { c.Cells = append(c.Cells, api.Air) })
		chunk("a cell of sticks", func(c *api.Chunk) { c.Cells[5] = api.Stick })
		chunk("a chest without a box", func(c *api.Chunk) { c.Cells[5] = api.Chest })
		chunk("a box without a chest", func(c *api.Chunk) { c.Boxes = append(c.Boxes, api.Box{Cell: 63, Bag: slots(6)}) })
		chunk("heaps too many", func(c *api.Chunk) { c.Heaps = slices.Repeat([]api.Heap{{Slot: some(1, api.Dirt)}}, 33) })
		chunk("an empty heap", func(c *api.Chunk) { c.Heaps = append(c.Heaps, api.Heap{}) })
	}
	for at := range village().Chunks {
		if at != 1 && at != 3 {
			continue
		}
		add("chunk "+strconv.Itoa(at)+": a box of 5 slots", func(w *api.World) { w.Chunks[at].Boxes[1].Bag = slots(5) })
		add("chunk "+strconv.Itoa(at)+": a box with 17 dirt", func(w *api.World) { w.Chunks[at].Boxes[0].Bag[5] = some(17, api.Dirt) })
	}
}

// addWrongOrders adds worlds that are wrong by the order of what they have, or by how much that is.
func addWrongOrders(add addWrong) {
	for at := range 4 {
		add("chunk "+strconv.Itoa(at)+" twice", func(w *api.World) { w.Chunks = slices.Insert(w.Chunks, at, w.Chunks[at]) })
		add("player "+strconv.Itoa(at)+" twice", func(w *api.World) { w.Players = slices.Insert(w.Players, at, w.Players[at]) })
	}
	for at := range 3 {
		add("chunks "+strconv.Itoa(at)+" and the next one turned round", func(w *api.World) { w.Chunks[at], w.Chunks[at+1] = w.Chunks[at+1], w.Chunks[at] })
		add("players "+strconv.Itoa(at)+" and the next one turned round", func(w *api.World) { w.Players[at], w.Players[at+1] = w.Players[at+1], w.Players[at] })
	}
	add("chunks backwards", func(w *api.World) { slices.Reverse(w.Chunks) })
	add("players backwards", func(w *api.World) { slices.Reverse(w.Players) })
	add("chunks by X, then Y", func(w *api.World) { w.Chunks = []api.Chunk{stony(0, 1, 0), stony(1, 0, 0)} })
	add("two chunks of one place", func(w *api.World) { w.Chunks = []api.Chunk{stony(1, 1, 0), stony(1, 1, 1)} })
	add("a chunk at first twice", func(w *api.World) { w.Chunks = []api.Chunk{gen.Chunk(77, 1, 1), gen.Chunk(77, 1, 1)} })
	add("two players of one Id", func(w *api.World) { w.Players = []api.Player{alone(4, 0, 0), alone(4, 1, 1)} })
	add("players too many", func(w *api.World) { w.Players = append(crowd().Players, alone(500, 0, 0)) })
	add("players far too many", func(w *api.World) {
		w.Players = nil
		for n := range 300 {
			w.Players = append(w.Players, alone(n, 0, 0))
		}
	})
}

// wrongSlots are some that no right bag has.
func wrongSlots() []api.Slot {
	return []api.Slot{
		some(17, api.Dirt), some(2, api.Pick), some(5, api.Chest), some(0, api.Dirt), some(-1, api.Dirt), some(1, api.Air), some(-1, api.Air),
		some(1, 13), some(0, 13), some(1, 255), some(math.MinInt, api.Dirt), some(1<<32+1, api.Dirt), some(math.MaxInt, api.Dirt),
	}
}

// addWrongPlayers adds worlds that are wrong by one of their players.
func addWrongPlayers(add addWrong) {
	for at := range village().Players {
		player := func(what string, change func(p *api.Player)) {
			add("player "+strconv.Itoa(at)+": "+what, func(w *api.World) { change(&w.Players[at]) })
		}
		for _, n := range []int{math.MinInt, -2, -1, 1<<30 + 1, 1 << 32, math.MaxInt} {
			player("Id "+strconv.Itoa(n), func(p *api.Player) { p.Id = n })
		}
		for _, n := range []int{math.MinInt, -8, -1, 40, 41, 127, 128, 1 << 32, math.MaxInt} {
			player("X "+strconv.Itoa(n), func(p *api.Player) { p.X = n })
			player("Y "+strconv.Itoa(n), func(p *api.Player) { p.Y = n })
		}
		for _, n := range []int{0, 1, 6, 7, 9, 16} {
			player("a bag of "+strconv.Itoa(n)+" slots", func(p *api.Player) { p.Bag = slots(n) })
		}
		for slot := range 8 {
			for _, s := range wrongSlots() {
				player("slot "+strconv.Itoa(slot)+" with "+show(s), func(p *api.Player) { p.Bag[slot] = s })
			}
		}
		player("nothing", func(p *api.Player) { *p = api.Player{} })
	}
}

// addWrongDeals adds worlds that are wrong by whom a player deals with, and by what it offers.
func addWrongDeals(add addWrong) {
	for _, at := range []int{1, 2} {
		deal := func(what string, change func(p *api.Player)) {
			add("deal of "+strconv.Itoa(at)+": "+what, func(w *api.World) { change(&w.Players[at]) })
		}
		for _, n := range []int{math.MinInt, -3, -2, 1<<30 + 1, 1 << 32, math.MaxInt} {
			deal("with "+strconv.Itoa(n), func(p *api.Player) { p.With = n })
		}
		deal("with itself", func(p *api.Player) { p.With = p.Id })
		deal("with nobody, but an offer", func(p *api.Player) { p.With, p.Agrees = -1, false })
		for _, n := range []int{0, 1, 6, 7, 9, 16} {
			deal("an offer of "+strconv.Itoa(n)+" slots", func(p *api.Player) { p.Offer = slots(n) })
		}
		for slot := range 8 {
			for _, s := range wrongSlots() {
				deal("an offer's slot "+strconv.Itoa(slot)+" with "+show(s), func(p *api.Player) { p.Offer[slot] = s })
			}
		}
	}
	for _, at := range []int{0, 3} {
		deal := func(what string, change func(p *api.Player)) {
			add("no deal of "+strconv.Itoa(at)+": "+what, func(w *api.World) { change(&w.Players[at]) })
		}
		deal("it agrees", func(p *api.Player) { p.Agrees = true })
		deal("an offer of one slot", func(p *api.Player) { p.Offer = slots(1) })
		deal("an offer of eight slots", func(p *api.Player) { p.Offer = slots(8) })
		deal("with somebody, without an offer", func(p *api.Player) { p.With = 5 })
	}
}

// Words: what is a right world, and what is none.
func TestRight(t *testing.T) {
	for _, w := range rights() {
		if !world.Right(w) {
			t.Errorf("not right: %s", show(w))
		}
	}
	for what, w := range wrongs() {
		if world.Right(w) {
			t.Errorf("right, %s: %s", what, show(w))
		}
	}
}

// Words: an empty list and none are the same (DOC.md, R6).
func TestRightWithEmptyLists(t *testing.T) {
	p := alone(3, 0, 0)
	p.Offer = []api.Slot{}
	w := api.World{Size: 1, Chunks: []api.Chunk{}, Players: []api.Player{p}}
	if !world.Right(w) {
		t.Errorf("not right: %s", show(w))
	}
	w, err := world.Set(w, p)
	is(t, "Set", w, err, api.World{Size: 1, Players: []api.Player{alone(3, 0, 0)}}, api.OK)
}

// Words: Size from 1 to 16; chunks and players of a world are within it.
func TestRightSizes(t *testing.T) {
	for size := -2; size < 20; size++ {
		isSize := size >= 1 && size <= 16
		if right := world.Right(api.World{Size: size}); right != isSize {
			t.Errorf("of size %d: %t", size, right)
		}
		for n := -1; n < 130; n++ {
			within := isSize && n >= 0 && n < 8*size
			for _, p := range []api.Player{alone(1, n, 0), alone(1, 0, n)} {
				if right := world.Right(api.World{Size: size, Players: []api.Player{p}}); right != within {
					t.Errorf("of size %d, a player at %d %d: %t", size, p.X, p.Y, right)
				}
			}
			within = isSize && n >= 0 && n < size
			for _, c := range []api.Chunk{stony(n, 0, 1), stony(0, n, 1)} {
				if right := world.Right(api.World{Size: size, Chunks: []api.Chunk{c}}); right != within {
					t.Errorf("of size %d, a chunk at %d %d: %t", size, c.X, c.Y, right)
				}
			}
		}
	}
}

// Words: the bounds of a tick, an Id, and of whom a player deals with.
func TestRightNumbers(t *testing.T) {
	for _, n := range []int{0, 1, 2, 77, 1<<30 - 1, 1 << 30, 1<<30 + 1, 1<<40 - 1, 1 << 40, 1<<40 + 1, -1, -2} {
		if right := world.Right(api.World{Size: 2, Tick: n}); right != (n >= 0 && n <= 1<<40) {
			t.Errorf("tick %d: %t", n, right)
		}
		isId := n >= 0 && n <= 1<<30
		if right := world.Right(api.World{Size: 2, Players: []api.Player{alone(n, 0, 0)}}); right != isId {
			t.Errorf("player %d: %t", n, right)
		}
		for _, agrees := range []bool{false, true} {
			if right := world.Right(api.World{Size: 2, Players: []api.Player{dealing(77, 0, 0, n, agrees)}}); right != (isId && n != 77) {
				t.Errorf("player 77 deals with %d: %t", n, right)
			}
		}
	}
}

// Words: chunks by rising Y, then X, none twice: all pairs, and all orders of four.
func TestRightOrders(t *testing.T) {
	for at := range 256 {
		a, b := at%16, at/16
		w := api.World{Size: 4, Chunks: []api.Chunk{stony(a%4, a/4, 1), stony(b%4, b/4, 1)}}
		if right := world.Right(w); right != (a < b) {
			t.Errorf("%d %d, then %d %d: %t", a%4, a/4, b%4, b/4, right)
		}
		w = api.World{Size: 4, Players: []api.Player{alone(a, 0, 0), alone(b, 0, 0)}}
		if right := world.Right(w); right != (a < b) {
			t.Errorf("player %d, then %d: %t", a, b, right)
		}
	}
	for at := range 256 {
		w := api.World{Size: 2}
		var places []int
		for _, n := range []int{at % 4, at / 4 % 4, at / 16 % 4, at / 64} {
			places = append(places, n)
			w.Chunks = append(w.Chunks, stony(n%2, n/2, 1))
			w.Players = append(w.Players, alone(n, 0, 0))
		}
		should := slices.Equal(places, []int{0, 1, 2, 3})
		if right := world.Right(api.World{Size: 2, Chunks: w.Chunks}); right != should {
			t.Errorf("chunks %v: %t", places, right)
		}
		if right := world.Right(api.World{Size: 2, Players: w.Players}); right != should {
			t.Errorf("players %v: %t", places, right)
		}
	}
}

// Words: at most 32 players.
func TestRightCrowds(t *testing.T) {
	var w api.World
	w.Size = 16
	for n := range 70 {
		if right := world.Right(w); right != (n <= 32) {
			t.Errorf("%d players: %t", n, right)
		}
		w.Players = append(w.Players, alone(n, n, 2*n%128))
	}
}
