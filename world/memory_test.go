package world_test

import (
	"reflect"
	"slices"
	"sync"
	"testing"

	"homestead/api"
	"homestead/gen"
	"homestead/world"
)

// span is where a list's memory lies, its spare room too.
type span struct{ from, to uintptr }

// spans are those of all lists that x has, the lists in lists too.
func spans(x any) []span {
	var out []span
	var walk func(v reflect.Value)
	walk = func(v reflect.Value) {
		switch v.Kind() {
		case reflect.Slice:
			if v.Cap() > 0 {
				from := v.Pointer()
				out = append(out, span{from, from + uintptr(v.Cap())*v.Type().Elem().Size()})
			}
			for at := range v.Len() {
				walk(v.Index(at))
			}
		case reflect.Struct:
			for at := range v.NumField() {
				walk(v.Field(at))
			}
		}
	}
	walk(reflect.ValueOf(x))
	return out
}

// shares tells whether two of some lists' memories overlap.
func shares(l []span) bool {
	slices.SortFunc(l, func(a, b span) int {
		if a.from < b.from {
			return -1
		}
		return 1
	})
	for at := 1; at < len(l); at++ {
		if l[at].from < l[at-1].to {
			return true
		}
	}
	return false
}

// roomy is l in memory that has something behind it.
func roomy[T any](l []T, more T) []T {
	return append(slices.Clone(l), more, more)[:len(l)]
}

// roomyChunk is c in memory of its own, each list with something behind it.
func roomyChunk(c api.Chunk) api.Chunk {
	c = cloneChunk(c)
	for at, b := range c.Boxes {
		c.Boxes[at].Bag = roomy(b.Bag, some(7, api.Stone))
	}
	c.Cells, c.Heaps = roomy(c.Cells, api.Stone), roomy(c.Heaps, api.Heap{Cell: 7})
	c.Boxes = roomy(c.Boxes, api.Box{Cell: 7})
	return c
}

// roomyPlayer is p in memory of its own, each list with something behind it.
func roomyPlayer(p api.Player) api.Player {
	p.Bag, p.Offer = roomy(p.Bag, some(7, api.Stone)), roomy(p.Offer, some(7, api.Stone))
	return p
}

// handIn is w in memory of its own, each list with something behind it.
func handIn(w api.World) api.World {
	w = clone(w)
	for at, c := range w.Chunks {
		w.Chunks[at] = roomyChunk(c)
	}
	for at, p := range w.Players {
		w.Players[at] = roomyPlayer(p)
	}
	w.Chunks, w.Players = roomy(w.Chunks, api.Chunk{X: 7}), roomy(w.Players, api.Player{Id: 7})
	return w
}

// showWhole is what x has, with all that stands in its lists' spare room.
func showWhole(x any) string {
	var widen func(v reflect.Value) reflect.Value
	widen = func(v reflect.Value) reflect.Value {
		out := reflect.New(v.Type()).Elem()
		out.Set(v)
		switch v.Kind() {
		case reflect.Slice:
			out = reflect.MakeSlice(v.Type(), v.Cap(), v.Cap())
			for at := range v.Cap() {
				out.Index(at).Set(widen(v.Slice(0, v.Cap()).Index(at)))
			}
		case reflect.Struct:
			for at := range v.NumField() {
				out.Field(at).Set(widen(v.Field(at)))
			}
		}
		return out
	}
	return show(x) + show(widen(reflect.ValueOf(x)).Interface())
}

// call is one that a world is handed to, with what else it is handed; it tells what it answers.
type call struct {
	what string
	done func(w api.World) any
	more any
}

// calls are those that answer lists: each one done, and each of its errors told, at one world or another one.
func calls() []call {
	var out []call
	put := func(what string, c api.Chunk) {
		c = roomyChunk(c)
		out = append(out, call{"Put of " + what, func(w api.World) any { out, _ := world.Put(w, c); return out }, c})
	}
	set := func(what string, p api.Player) {
		p = roomyPlayer(p)
		out = append(out, call{"Set of " + what, func(w api.World) any { out, _ := world.Set(w, p); return out }, p})
	}
	put("one more", farm(0, 0))
	put("another one", farm(0, 1))
	put("the last one", farm(2, 4))
	put("the one at first", gen.Chunk(77, 0, 1))
	put("the one at first where none is", gen.Chunk(77, 1, 1))
	put("a wrong one", api.Chunk{Cells: []api.Item{1, 2}})
	put("one outside", farm(15, 15))
	set("one more", dealing(5, 1, 1, 6, true, some(1, api.Dirt)))
	set("the first", dealing(0, 1, 1, 6, true, some(1, api.Dirt)))
	set("the last", alone(1<<30, 1, 1))
	set("another one", alone(3, 1, 1))
	set("another one that deals", dealing(2, 1, 1, 6, false))
	set("a wrong one", api.Player{Bag: slots(3)})
	for _, at := range [][2]int{{0, 0}, {0, 1}, {1, 1}, {2, 4}, {5, 5}} {
		out = append(out, call{"Chunk " + show(at), func(w api.World) any { c, _ := world.Chunk(w, at[0], at[1]); return c }, nil})
	}
	for _, n := range []int{2, 3, 5, 900} {
		out = append(out, call{"Player " + show(n), func(w api.World) any { p, _ := world.Player(w, n); return p }, nil})
	}
	bytesOf := func(w api.World) any { b, _ := world.Bytes(w); return b }
	return append(out, call{"Bytes", bytesOf, nil}, call{"Right", func(w api.World) any { return world.Right(w) }, nil})
}

// handed are worlds that those calls are handed, some of them wrong.
func handed() []api.World {
	l := append(rights(), hut())
	for _, what := range []string{"Tick -1", "chunks backwards", "players too many", "chunk 1: no cells", "player 0: a bag of 0 slots", "deal of 1: an offer of 9 slots"} {
		l = append(l, wrongs()[what])
	}
	return l
}

// R3: what is handed in stays as it is, its spare room too; what is answered, beside an error too, shares no memory with it, and no two lists of answers do.
func TestAnswersAreNew(t *testing.T) {
	for _, c := range calls() {
		for _, w := range handed() {
			in := handIn(w)
			as, more := showWhole(in), ""
			if c.more != nil {
				more = showWhole(c.more)
			}
			first, second := c.done(in), c.done(in)
			if showWhole(in) != as || c.more != nil && showWhole(c.more) != more {
				t.Errorf("%s of %s: what was handed in became %s", c.what, show(w), showWhole(in))
			}
			if show(first) != show(second) {
				t.Errorf("%s of %s: %s, then %s", c.what, show(w), show(first), show(second))
			}
			memory := slices.Concat(spans(in), spans(first), spans(second))
			if c.more != nil {
				memory = append(memory, spans(c.more)...)
			}
			if shares(memory) {
				t.Errorf("%s of %s: memory is shared", c.what, show(w))
			}
		}
	}
}

// R3: no two lists of one answer share memory, even if those that were handed in do.
func TestListsOfAnAnswer(t *testing.T) {
	l := slots(8, some(1, api.Dirt))
	c := farm(1, 1)
	c.Boxes[0].Bag, c.Boxes[1].Bag = l[:6], l[2:]
	d := c
	d.X = 0
	p := api.Player{Id: 4, Bag: l, With: 5, Offer: l}
	w := api.World{Size: 2, Chunks: []api.Chunk{d}, Players: []api.Player{{Id: 6, Bag: l, With: 4, Offer: l}}}
	out, err := world.Put(w, c)
	if err != api.OK || shares(spans(out)) {
		t.Errorf("Put: error %d, %s", err, show(out))
	}
	out, err = world.Set(w, p)
	if err != api.OK || shares(spans(out)) {
		t.Errorf("Set: error %d, %s", err, show(out))
	}
	w.Tick = -1
	out, err = world.Put(w, c)
	if err != api.ErrState || shares(spans(out)) {
		t.Errorf("Put: error %d, %s", err, show(out))
	}
	if q, _ := world.Player(w, 6); shares(spans(q)) {
		t.Errorf("Player: %s", show(q))
	}
}

// R3: bytes that are read stay as they are, and are not kept.
func TestReadKeepsNothing(t *testing.T) {
	for _, w := range append(rights(), hut()) {
		b := roomy(bytesOf(t, w), 7)
		as := showWhole(b)
		first, _ := world.Read(b)
		second, _ := world.Read(b)
		if showWhole(b) != as || shares(slices.Concat(spans(b), spans(first), spans(second))) {
			t.Errorf("Read of %s: %s", as, showWhole(b))
		}
		clear(b)
		is(t, "Read", first, api.OK, w, api.OK)
	}
}

// R4: many may ask of one world at once, and are told the same.
func TestManyAsk(t *testing.T) {
	w := handIn(village())
	as := showWhole(w)
	var wanted []string
	for _, c := range calls() {
		wanted = append(wanted, show(c.done(w)))
	}
	var asking sync.WaitGroup
	for range 8 {
		asking.Go(func() {
			for range 10 {
				for at, c := range calls() {
					if got := show(c.done(w)); got != wanted[at] {
						t.Errorf("%s: %s and not %s", c.what, got, wanted[at])
					}
				}
			}
		})
	}
	asking.Wait()
	if showWhole(w) != as {
		t.Errorf("%s became %s", as, showWhole(w))
	}
}
