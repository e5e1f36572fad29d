package world_test

import (
	"encoding/binary"
	"math/rand"
	"slices"
	"testing"

	"homestead/api"
	"homestead/bag"
	"homestead/chunk"
	"homestead/gen"
	"homestead/world"
)

// The slow calls follow the chapter's words one by one, and lean on the layers below.

// slowPlayer tells whether p is a right player, wherever it is.
func slowPlayer(p api.Player) bool {
	isId := func(n int) bool { return n >= 0 && n <= 1<<30 }
	if !isId(p.Id) || !bag.Right(p.Bag, 8) {
		return false
	}
	if p.With == -1 {
		return len(p.Offer) == 0 && !p.Agrees
	}
	return isId(p.With) && p.With != p.Id && bag.Right(p.Offer, 8)
}

// slowWithin tells whether p's place is in a world of that size.
func slowWithin(p api.Player, size int) bool {
	return p.X >= 0 && p.Y >= 0 && p.X < 8*size && p.Y < 8*size
}

// slowRight tells whether w is right: of all pairs the first one comes ahead.
func slowRight(w api.World) bool {
	if w.Size < 1 || w.Size > 16 || w.Tick < 0 || w.Tick > 1<<40 || len(w.Players) > 32 {
		return false
	}
	for at, c := range w.Chunks {
		if !chunk.Right(c) || c.X >= w.Size || c.Y >= w.Size {
			return false
		}
		for _, d := range w.Chunks[at+1:] {
			if d.Y < c.Y || d.Y == c.Y && d.X <= c.X {
				return false
			}
		}
	}
	for at, p := range w.Players {
		if !slowPlayer(p) || !slowWithin(p, w.Size) {
			return false
		}
		for _, q := range w.Players[at+1:] {
			if q.Id <= p.Id {
				return false
			}
		}
	}
	return true
}

// slowChunk tells the chunk of a place, going through all of them.
func slowChunk(w api.World, x, y int) (api.Chunk, bool) {
	if !slowRight(w) || x < 0 || y < 0 || x >= w.Size || y >= w.Size {
		return api.Chunk{}, false
	}
	for _, c := range w.Chunks {
		if c.X == x && c.Y == y {
			return c, true
		}
	}
	return gen.Chunk(w.Seed, x, y), true
}

func slowAt(w api.World, x, y int) (api.Item, bool) {
	for cy := range 16 {
		for cx := range 16 {
			c, there := slowChunk(w, cx, cy)
			if there && x >= 8*cx && x < 8*cx+8 && y >= 8*cy && y < 8*cy+8 {
				return c.Cells[(y-8*cy)*8+x-8*cx], true
			}
		}
	}
	return api.Air, false
}

func slowPut(w api.World, c api.Chunk) (api.World, api.Errno) {
	if !slowRight(w) {
		return w, api.ErrState
	}
	if !chunk.Right(c) || c.X >= w.Size || c.Y >= w.Size {
		return w, api.ErrChunk
	}
	out := w
	out.Chunks = nil
	for y := range w.Size {
		for x := range w.Size {
			at := slices.IndexFunc(w.Chunks, func(c api.Chunk) bool { return c.X == x && c.Y == y })
			switch {
			case c.X == x && c.Y == y && show(c) != show(gen.Chunk(w.Seed, x, y)):
				out.Chunks = append(out.Chunks, c)
			case at >= 0 && (c.X != x || c.Y != y):
				out.Chunks = append(out.Chunks, w.Chunks[at])
			}
		}
	}
	return out, api.OK
}

func slowSet(w api.World, p api.Player) (api.World, api.Errno) {
	there := slices.ContainsFunc(w.Players, func(q api.Player) bool { return q.Id == p.Id })
	switch {
	case !slowRight(w):
		return w, api.ErrState
	case !slowPlayer(p) || !slowWithin(p, w.Size):
		return w, api.ErrPlayer
	case !there && len(w.Players) == 32:
		return w, api.ErrLong
	}
	out := w
	out.Players = []api.Player{p}
	for _, q := range w.Players {
		if q.Id != p.Id {
			out.Players = append(out.Players, q)
		}
	}
	slices.SortFunc(out.Players, func(a, b api.Player) int { return a.Id - b.Id })
	return out, api.OK
}

// slowWrite are w's bytes, be it right or not.
func slowWrite(w api.World) []byte {
	var out []byte
	number := func(n uint64) { out = binary.AppendUvarint(out, n) }
	slots := func(l []api.Slot) {
		for _, s := range l {
			number(uint64(s.Item))
			number(uint64(s.N))
		}
	}
	number(uint64(w.Size))
	number(w.Seed)
	number(uint64(w.Tick))
	number(uint64(len(w.Chunks)))
	for _, c := range w.Chunks {
		b, _ := chunk.Bytes(c)
		number(uint64(len(b)))
		out = append(out, b...)
	}
	number(uint64(len(w.Players)))
	for _, p := range w.Players {
		number(uint64(p.Id))
		number(uint64(p.X))
		number(uint64(p.Y))
		slots(p.Bag)
		number(uint64(p.With + 1))
		number(map[bool]uint64{false: 0, true: 1}[p.Agrees])
		if p.With != -1 {
			slots(p.Offer)
		}
	}
	return out
}

func slowBytes(w api.World) ([]byte, api.Errno) {
	if !slowRight(w) {
		return nil, api.ErrState
	}
	return slowWrite(w), api.OK
}

// slowRead takes the bytes for numbers as they come, and answers the world that these would be, if its Bytes are b.
func slowRead(b []byte) (api.World, api.Errno) {
	rest := b
	next := func() uint64 {
		n, size := binary.Uvarint(rest)
		rest = rest[max(0, size):]
		return n
	}
	readSlots := func() []api.Slot {
		var l []api.Slot
		for range 8 {
			l = append(l, api.Slot{Item: api.Item(next()), N: int(next())})
		}
		return l
	}
	w := api.World{Size: int(next()), Seed: next(), Tick: int(next())}
	for range min(next(), 257) {
		size := min(next(), uint64(len(rest)))
		c, _ := chunk.Read(rest[:size])
		rest = rest[size:]
		w.Chunks = append(w.Chunks, c)
	}
	for range min(next(), 33) {
		p := api.Player{Id: int(next()), X: int(next()), Y: int(next()), Bag: readSlots(), With: int(next() - 1), Agrees: next() == 1}
		if p.With != -1 {
			p.Offer = readSlots()
		}
		w.Players = append(w.Players, p)
	}
	if again, err := slowBytes(w); err != api.OK || !slices.Equal(again, b) {
		return api.World{}, api.ErrState
	}
	return w, api.OK
}

// sameRead holds Read to the slow one.
func sameRead(t *testing.T, b []byte) {
	t.Helper()
	w, err := world.Read(b)
	wanted, should := slowRead(b)
	if err != api.OK && err == should && show(w) == show(api.World{}) {
		return
	}
	is(t, "Read", w, err, wanted, should)
}

// sameBytes holds Bytes to the slow one, and to what follows: Read of them is w.
func sameBytes(t *testing.T, w api.World) []byte {
	t.Helper()
	b, err := world.Bytes(w)
	if wanted, should := slowBytes(w); !slices.Equal(b, wanted) || err != should {
		t.Errorf("Bytes(%s): %v, error %d; not %v, error %d", show(w), b, err, wanted, should)
	}
	if err == api.OK {
		got, wrong := world.Read(b)
		is(t, "Read of Bytes", got, wrong, w, api.OK)
	}
	return b
}

// script has numbers read off its bytes; behind its end there are noughts.
type script struct{ rest string }

func (s *script) next() int {
	if s.rest == "" {
		return 0
	}
	x := s.rest[0]
	s.rest = s.rest[1:]
	return int(x)
}

// place is one of a small world's chunks, mostly.
func (s *script) place() int {
	if x := s.next(); x < 245 {
		return x % 4
	} else {
		return x - 248
	}
}

// bag is one of eight slots, mostly; often of empty ones.
func (s *script) bag() []api.Slot {
	x := s.next()
	l := make([]api.Slot, 8)
	if x >= 250 {
		return make([]api.Slot, x-247)
	}
	for at := range l {
		if x>>at&1 == 1 {
			l[at] = some(1+s.next()%5, api.Item(1+s.next()%12))
		}
	}
	return l
}

// chunk is one at first, or nearly; mostly it is right.
func (s *script) chunk(seed uint64) api.Chunk {
	c := gen.Chunk(seed, s.place(), s.place())
	if len(c.Cells) == 0 || s.next() < 80 {
		return c
	}
	cell := s.next() % 64
	switch x := s.next(); {
	case x < 100:
		c.Cells[cell] = api.Item(x % 12)
	case x < 180:
		c.Heaps = append(c.Heaps, api.Heap{Cell: cell, Slot: some(1+x%16, api.Dirt)})
	default:
		c.Cells[cell] = api.Chest
		l := s.bag()
		c.Boxes = []api.Box{{Cell: cell, Bag: l[:min(6, len(l))]}}
	}
	return c
}

// player is a right one, mostly.
func (s *script) player() api.Player {
	p := alone(s.next()%40-1, s.next()%33-1, s.next()%33-1)
	p.Bag = s.bag()
	if x := s.next(); x < 120 {
		p.With, p.Offer, p.Agrees = x%42-2, s.bag(), x < 60
	} else if x > 250 {
		p.Agrees = true
	}
	return p
}

// spoilt is w with something that may make it wrong.
func (s *script) spoilt(w api.World) api.World {
	return changed(w, func(w *api.World) {
		switch x := s.next(); x % 7 {
		case 0:
			w.Size = x%24 - 3
		case 1:
			w.Tick = x - 100
		case 2:
			w.Chunks = append(w.Chunks, s.chunk(w.Seed))
		case 3:
			w.Players = append(w.Players, s.player())
		case 4:
			w.Chunks = append([]api.Chunk{s.chunk(w.Seed)}, w.Chunks...)
		case 5:
			slices.Reverse(w.Players)
		default:
			for at := range w.Players {
				w.Players[at].Offer = s.bag()
			}
		}
	})
}

// step does one call, and the slow one beside it, and answers the world that is there then.
func (s *script) step(t *testing.T, w api.World) api.World {
	t.Helper()
	if s.next() < 128 {
		c := s.chunk(w.Seed)
		got, err := world.Put(w, c)
		wanted, should := slowPut(w, c)
		is(t, "Put of "+show(c), got, err, wanted, should)
		return got
	}
	p := s.player()
	got, err := world.Set(w, p)
	wanted, should := slowSet(w, p)
	is(t, "Set of "+show(p), got, err, wanted, should)
	return got
}

// asks holds what a world tells to what the slow calls tell.
func (s *script) asks(t *testing.T, w api.World) {
	t.Helper()
	if right := world.Right(w); right != slowRight(w) {
		t.Errorf("right %t: %s", right, show(w))
	}
	x, y := s.place(), s.place()
	c, there := slowChunk(w, x, y)
	chunkIs(t, w, x, y, c, there)
	x, y = s.next()%40-4, s.next()%40-4
	i, told := world.At(w, x, y)
	if wanted, there := slowAt(w, x, y); i != wanted || told != there {
		t.Errorf("At %d %d of %s: %d, %t; not %d, %t", x, y, show(w), i, told, wanted, there)
	}
	n := s.next()%40 - 1
	if at := slices.IndexFunc(w.Players, func(p api.Player) bool { return p.Id == n }); at >= 0 {
		playerIs(t, w, n, w.Players[at], true)
	} else {
		playerIs(t, w, n, api.Player{}, false)
	}
}

// follow does a script's calls one behind the other; now and then it asks them of a world that may be wrong, and of bytes that may be none.
func follow(t *testing.T, text string) {
	t.Helper()
	s := &script{rest: text}
	w := api.World{Size: 1 + s.next()%4, Seed: uint64(s.next()), Tick: s.next()}
	for s.rest != "" && !t.Failed() {
		if s.next() < 40 {
			wrong := s.spoilt(w)
			s.step(t, wrong)
			s.asks(t, wrong)
			sameBytes(t, wrong)
		}
		w = s.step(t, w)
		s.asks(t, w)
		if !world.Right(w) {
			t.Errorf("not right: %s", show(w))
		}
		if b := sameBytes(t, w); len(b) > 0 {
			b[s.next()*len(b)/256] = byte(s.next())
			sameRead(t, b)
		}
	}
}

// P13.1 to P13.4: many calls, one behind the other.
func TestScripts(t *testing.T) {
	random := rand.New(rand.NewSource(13))
	for range 300 {
		text := make([]byte, 1000)
		random.Read(text)
		follow(t, string(text))
	}
}

// P13.3: Read of bytes by chance, about those of worlds.
func TestReadByChance(t *testing.T) {
	random := rand.New(rand.NewSource(14))
	for range 20_000 {
		b := make([]byte, random.Intn(60))
		for at := range b {
			if random.Intn(6) == 0 {
				b[at] = byte(random.Intn(17))
			}
		}
		if len(b) > 0 {
			b[0] = 1
		}
		sameRead(t, b)
	}
}

func FuzzWorld(f *testing.F) {
	f.Add("\x03\x05\xff\x09\x07\x00\x00\x00\x00\x00\x09\x0b\xf0\x01")
	f.Add("\x00\x00\xff\x01\x00\x01\x05\x00\x00\x00\x01\x05\x01\x00")
	f.Fuzz(func(t *testing.T, text string) {
		follow(t, text[:min(len(text), 1000)])
	})
}

func FuzzRead(f *testing.F) {
	for _, w := range []api.World{{Size: 1}, hut(), village()} {
		f.Add(slowWrite(w))
	}
	f.Fuzz(func(t *testing.T, b []byte) {
		sameRead(t, b)
	})
}
