package own_test

import (
	"fmt"
	"slices"
	"testing"

	"homestead/api"
	"homestead/own"
)

// bag is one whose slots all have n dirt, with another one in its spare room.
func bag(n int) []api.Slot {
	return slices.Repeat([]api.Slot{{Item: api.Dirt, N: n}}, 9)[:8]
}

// sample is a world that has something in each list, and something behind it; what is no right world is copied, too.
func sample() api.World {
	chunks := []api.Chunk{
		{X: 1, Y: 2, Cells: []api.Item{1, 2, 3}, Heaps: []api.Heap{{Cell: 5, Slot: api.Slot{Item: api.Wood, N: 4}}}, Boxes: []api.Box{{Cell: 6, Bag: bag(1)}, {Cell: 7, Bag: bag(2)}}},
		{X: 3, Y: -4, Cells: []api.Item{4}},
		{X: 77},
	}
	players := []api.Player{
		{Id: 8, X: 9, Y: 10, Bag: bag(3), With: 11, Offer: bag(4), Agrees: true},
		{Id: -12, Bag: bag(5), With: -1},
		{Id: 78},
	}
	return api.World{Size: 13, Seed: 14, Tick: -15, Chunks: chunks[:2], Players: players[:2]}
}

// bags are all lists of slots that a world has.
func bags(w api.World) [][]api.Slot {
	var out [][]api.Slot
	for _, c := range w.Chunks {
		for _, b := range c.Boxes {
			out = append(out, b.Bag)
		}
	}
	for _, p := range w.Players {
		out = append(out, p.Bag, p.Offer)
	}
	return out
}

// fill writes x over all of l, and its spare room.
func fill[T any](l []T, x T) {
	l = l[:cap(l)]
	for at := range l {
		l[at] = x
	}
}

// spoil writes over all that a world's lists have.
func spoil(w api.World) {
	for _, l := range bags(w) {
		fill(l, api.Slot{Item: api.Pick, N: -1})
	}
	for _, c := range w.Chunks {
		fill(c.Cells, api.Pick)
		fill(c.Heaps, api.Heap{Cell: -1})
		fill(c.Boxes, api.Box{Cell: -1})
	}
	fill(w.Chunks, api.Chunk{X: -1})
	fill(w.Players, api.Player{Id: -1})
}

// show is a world as a text, with what stands behind its lists.
func show(w api.World) string {
	return fmt.Sprintf("%+v behind %+v %+v %+v", w, w.Chunks[:cap(w.Chunks)], w.Players[:cap(w.Players)], slices.Concat(bags(w)...))
}

func TestTheSame(t *testing.T) {
	w := sample()
	if got, wanted := fmt.Sprintf("%+v", own.World(w)), fmt.Sprintf("%+v", w); got != wanted {
		t.Errorf("%s and not %s", got, wanted)
	}
}

func TestNothingIsShared(t *testing.T) {
	in, first := sample(), own.World(sample())
	as, wanted := show(in), show(first)
	second, third := own.World(in), own.World(in)
	spoil(second)
	if show(in) != as {
		t.Errorf("what was handed in became %s", show(in))
	}
	spoil(in)
	if show(third) != wanted {
		t.Errorf("%s and not %s", show(third), wanted)
	}
}

func TestNoTwoListsAreOne(t *testing.T) {
	in, one := sample(), bag(1)
	for at := range in.Chunks[0].Boxes {
		in.Chunks[0].Boxes[at].Bag = one
	}
	in.Players[0].Bag, in.Players[0].Offer, in.Players[1].Bag, in.Players[1].Offer = one, one, one, one
	in.Chunks[1].Cells = in.Chunks[0].Cells
	out := own.World(in)
	for n, l := range bags(out) {
		fill(l, api.Slot{N: n})
	}
	for n, l := range bags(out) {
		if !slices.Equal(l, slices.Repeat([]api.Slot{{N: n}}, 8)) {
			t.Errorf("list %d has %v", n, l)
		}
	}
	fill(out.Chunks[0].Cells, api.Pick)
	if !slices.Equal(out.Chunks[1].Cells, []api.Item{1, 2, 3}) {
		t.Errorf("the cells are %v", out.Chunks[1].Cells)
	}
}

func TestEmptyListsKeepNothing(t *testing.T) {
	room := make([]api.Slot, 4)
	if l := own.List(room[:0]); len(l) != 0 || cap(l) != 0 {
		t.Errorf("a list of %d with room for %d", len(l), cap(l))
	}
	if l := own.List[int](nil); l != nil {
		t.Errorf("%v", l)
	}
	if w := own.World(api.World{Size: 3}); len(w.Chunks) != 0 || len(w.Players) != 0 || w.Size != 3 {
		t.Errorf("%+v", w)
	}
}
