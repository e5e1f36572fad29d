package chunk_test

import (
	"encoding/binary"
	"math/rand"
	"slices"
	"testing"

	"homestead/api"
	"homestead/chunk"
)

// The slow calls follow the chapter's words one by one. What layers 8 and 9 tell of items and bags stands here anew.

// slowStack is how many of i a slot holds.
func slowStack(i api.Item) int {
	switch {
	case i == api.Air || i > api.Pick:
		return 0
	case i == api.Pick:
		return 1
	case i == api.Chest:
		return 4
	}
	return 16
}

// slowBlock tells whether i is a block.
func slowBlock(i api.Item) bool {
	return i >= api.Dirt && i <= api.Torch && i != api.Stick && i != api.Ingot
}

// slowBag tells whether l is a right bag of six slots.
func slowBag(l []api.Slot) bool {
	for _, s := range l {
		if s != (api.Slot{}) && (s.N < 1 || s.N > slowStack(s.Item)) {
			return false
		}
	}
	return len(l) == 6
}

// slowRight tells whether c is right.
func slowRight(c api.Chunk) bool {
	if c.X < 0 || c.X > 15 || c.Y < 0 || c.Y > 15 || len(c.Cells) != 64 || len(c.Heaps) > 32 {
		return false
	}
	chests := 0
	for _, i := range c.Cells {
		if i != api.Air && !slowBlock(i) {
			return false
		}
		if i == api.Chest {
			chests++
		}
	}
	for _, h := range c.Heaps {
		if h.Cell < 0 || h.Cell > 63 || h.Slot.N < 1 || h.Slot.N > slowStack(h.Slot.Item) {
			return false
		}
	}
	return chests == len(c.Boxes) && slowBoxes(c)
}

// slowBoxes tells whether c's boxes rise, each of a chest's cell and with a right bag.
func slowBoxes(c api.Chunk) bool {
	last := -1
	for _, b := range c.Boxes {
		if b.Cell <= last || b.Cell > 63 || c.Cells[b.Cell] != api.Chest || !slowBag(b.Bag) {
			return false
		}
		last = b.Cell
	}
	return true
}

func slowBytes(c api.Chunk) ([]byte, api.Errno) {
	if !slowRight(c) {
		return nil, api.ErrChunk
	}
	numbers := []int{c.X, c.Y}
	for _, i := range c.Cells {
		numbers = append(numbers, int(i))
	}
	numbers = append(numbers, len(c.Heaps))
	for _, h := range c.Heaps {
		numbers = append(numbers, h.Cell, int(h.Slot.Item), h.Slot.N)
	}
	for _, b := range c.Boxes {
		for _, s := range b.Bag {
			numbers = append(numbers, int(s.Item), s.N)
		}
	}
	var out []byte
	for _, n := range numbers {
		out = binary.AppendUvarint(out, uint64(n))
	}
	return out, api.OK
}

// slowRead takes the bytes for numbers as they come, and answers the chunk that these would be, if its Bytes are b.
func slowRead(b []byte) (api.Chunk, api.Errno) {
	rest := b
	next := func() int {
		n, size := binary.Uvarint(rest)
		rest = rest[max(0, size):]
		return int(n)
	}
	c := api.Chunk{X: next(), Y: next()}
	for range 64 {
		c.Cells = append(c.Cells, api.Item(next()))
	}
	for range min(next(), 33) {
		c.Heaps = append(c.Heaps, api.Heap{Cell: next(), Slot: api.Slot{Item: api.Item(next()), N: next()}})
	}
	for cell, i := range c.Cells {
		if i == api.Chest {
			var l []api.Slot
			for range 6 {
				l = append(l, api.Slot{Item: api.Item(next()), N: next()})
			}
			c.Boxes = append(c.Boxes, api.Box{Cell: cell, Bag: l})
		}
	}
	if again, err := slowBytes(c); err != api.OK || !slices.Equal(again, b) {
		return api.Chunk{}, api.ErrChunk
	}
	return c, api.OK
}

func slowDrop(c api.Chunk, cell int, s api.Slot) (api.Chunk, api.Errno) {
	switch {
	case !slowRight(c):
		return c, api.ErrChunk
	case cell < 0 || cell > 63:
		return c, api.ErrPlace
	case s.N < 1 || s.N > slowStack(s.Item):
		return c, api.ErrCount
	case len(c.Heaps) == 32:
		return c, api.ErrRoom
	}
	return changed(c, func(c *api.Chunk) { c.Heaps = append(c.Heaps, api.Heap{Cell: cell, Slot: s}) }), api.OK
}

func slowLift(c api.Chunk, cell int) (api.Chunk, []api.Slot) {
	var lifted []api.Slot
	out := clone(c)
	for at := 0; slowRight(c) && at < len(out.Heaps); {
		if h := out.Heaps[at]; h.Cell == cell {
			lifted = append(lifted, h.Slot)
			out.Heaps = slices.Delete(out.Heaps, at, at+1)
		} else {
			at++
		}
	}
	return out, lifted
}

// slowBox tells the bag of a cell's box, going through all of them.
func slowBox(c api.Chunk, cell int) ([]api.Slot, bool) {
	for _, b := range c.Boxes {
		if slowRight(c) && b.Cell == cell {
			return b.Bag, true
		}
	}
	return nil, false
}

func slowSet(c api.Chunk, cell int, i api.Item) (api.Chunk, api.Errno) {
	l, _ := slowBox(c, cell)
	switch {
	case !slowRight(c):
		return c, api.ErrChunk
	case cell < 0 || cell > 63:
		return c, api.ErrPlace
	case i != api.Air && !slowBlock(i):
		return c, api.ErrItem
	case len(l) > 0 && !slices.Equal(l, make([]api.Slot, 6)):
		return c, api.ErrRoom
	}
	was := clone(c)
	out := changed(c, func(c *api.Chunk) { c.Cells[cell], c.Boxes = i, nil })
	for at, block := range out.Cells {
		if block == api.Chest {
			l, there := slowBox(was, at)
			if !there {
				l = make([]api.Slot, 6)
			}
			out.Boxes = append(out.Boxes, api.Box{Cell: at, Bag: l})
		}
	}
	return out, api.OK
}

func slowFill(c api.Chunk, cell int, l []api.Slot) (api.Chunk, api.Errno) {
	_, there := slowBox(c, cell)
	switch {
	case !slowRight(c):
		return c, api.ErrChunk
	case !there:
		return c, api.ErrPlace
	case !slowBag(l):
		return c, api.ErrBag
	}
	return changed(c, func(c *api.Chunk) {
		for at, b := range c.Boxes {
			if b.Cell == cell {
				c.Boxes[at].Bag = slices.Clone(l)
			}
		}
	}), api.OK
}

// sameChunk complains unless both calls answer the same, of which a right chunk stays right.
func sameChunk(t *testing.T, what string, c, got api.Chunk, err api.Errno, wanted api.Chunk, should api.Errno) {
	t.Helper()
	if show(got) != show(wanted) || err != should {
		t.Errorf("%s of %q: %q, error %d; not %q, error %d", what, show(c), show(got), err, show(wanted), should)
	}
	if right := chunk.Right(c); right != slowRight(c) || right != chunk.Right(got) {
		t.Errorf("%s of %q, right %t: %q", what, show(c), right, show(got))
	}
}

// sameRead holds Read to the slow one.
func sameRead(t *testing.T, b []byte) {
	t.Helper()
	c, err := chunk.Read(b)
	if wanted, should := slowRead(b); show(c) != show(wanted) || err != should {
		t.Errorf("Read(%v): %q, error %d; not %q, error %d", b, show(c), err, show(wanted), should)
	}
}

// sameBytes holds Bytes to the slow one, and to what follows: Read of them is c.
func sameBytes(t *testing.T, c api.Chunk) []byte {
	t.Helper()
	b, err := chunk.Bytes(c)
	if wanted, should := slowBytes(c); !slices.Equal(b, wanted) || err != should {
		t.Errorf("Bytes(%q): %v, error %d; not %v, error %d", show(c), b, err, wanted, should)
	}
	if got, wrong := chunk.Read(b); err == api.OK && (show(got) != show(c) || wrong != api.OK) {
		t.Errorf("Read(Bytes(%q)): %q, error %d", show(c), show(got), wrong)
	}
	return b
}

// script has numbers read off its bytes; behind its end there are noughts.
type script struct{ rest string }

func (s *script) next() int {
	if s.rest == "" {
		return 0
	}
	x := s.rest[0]
	s.rest = s.rest[1:]
	return int(x)
}

// cell is one of few, mostly.
func (s *script) cell() int {
	x := s.next()
	if x >= 250 {
		return x - 252
	}
	if few := []int{0, 1, 9, 10, 62, 63, 64}; x < 180 {
		return few[x%len(few)]
	}
	return x % 64
}

// item is a chest or Air often, and now and then any.
func (s *script) item() api.Item {
	x := s.next()
	switch {
	case x < 80:
		return api.Chest
	case x < 130:
		return api.Air
	}
	return api.Item(x % 15)
}

// slot is a right one, mostly.
func (s *script) slot() api.Slot {
	x := s.next()
	i := api.Item(x % 13)
	if x >= 250 {
		return api.Slot{Item: api.Item(x - 240), N: s.next() - 100}
	}
	if i == api.Air {
		return api.Slot{}
	}
	return api.Slot{Item: i, N: 1 + s.next()%slowStack(i)}
}

// bag is one of six slots, mostly; often an empty one.
func (s *script) bag() []api.Slot {
	x := s.next()
	l := make([]api.Slot, 6)
	if x < 100 {
		return l
	}
	if x >= 245 {
		l = make([]api.Slot, x-245)
	}
	for at := range l {
		l[at] = s.slot()
	}
	return l
}

// spoilt is c with something that may make it wrong.
func (s *script) spoilt(c api.Chunk) api.Chunk {
	return changed(c, func(c *api.Chunk) {
		switch x := s.next(); x % 8 {
		case 0:
			c.X = x%24 - 2
		case 1:
			c.Y = x%24 - 2
		case 2:
			c.Cells = c.Cells[:len(c.Cells)*7/8]
		case 3:
			c.Cells = append(slices.Clone(c.Cells[1:]), s.item())
		case 4:
			c.Heaps = append(c.Heaps, api.Heap{Cell: s.cell(), Slot: s.slot()})
		case 5:
			c.Boxes = append(c.Boxes, api.Box{Cell: s.cell(), Bag: s.bag()})
		case 6:
			c.Boxes = c.Boxes[min(1, len(c.Boxes)):]
		default:
			for at := range c.Boxes {
				c.Boxes[at] = api.Box{Cell: c.Boxes[at].Cell, Bag: s.bag()}
			}
		}
	})
}

// step does one call, and the slow one beside it, and answers the chunk that is there then.
func (s *script) step(t *testing.T, c api.Chunk) api.Chunk {
	t.Helper()
	cell, call := s.cell(), s.next()%16
	switch {
	case call < 5:
		l := s.slot()
		got, err := chunk.Drop(c, cell, l)
		wanted, should := slowDrop(c, cell, l)
		sameChunk(t, "Drop", c, got, err, wanted, should)
		return got
	case call < 7:
		got, l := chunk.Lift(c, cell)
		wanted, slots := slowLift(c, cell)
		sameChunk(t, "Lift", c, got, api.OK, wanted, api.OK)
		if !slices.Equal(l, slots) {
			t.Errorf("Lift of %q: %q, not %q", show(c), showSlots(l), showSlots(slots))
		}
		return got
	case call < 11:
		i := s.item()
		got, err := chunk.Set(c, cell, i)
		wanted, should := slowSet(c, cell, i)
		sameChunk(t, "Set", c, got, err, wanted, should)
		return got
	}
	l := s.bag()
	got, err := chunk.Fill(c, cell, l)
	wanted, should := slowFill(c, cell, l)
	sameChunk(t, "Fill", c, got, err, wanted, should)
	return got
}

// follow does a script's calls one behind the other; now and then it asks them of a chunk that may be wrong, and of bytes that may be none.
func follow(t *testing.T, text string) {
	t.Helper()
	s := &script{rest: text}
	c := api.Chunk{X: s.next() % 16, Y: s.next() % 16, Cells: make([]api.Item, 64)}
	for s.rest != "" {
		if s.next() < 40 {
			wrong := s.spoilt(c)
			s.step(t, wrong)
			sameBytes(t, wrong)
		}
		c = s.step(t, c)
		cell := s.cell()
		l, there := chunk.Box(c, cell)
		if wanted, is := slowBox(c, cell); !slices.Equal(l, wanted) || there != is {
			t.Errorf("Box(%q, %d): %q, %t; not %q, %t", show(c), cell, showSlots(l), there, showSlots(wanted), is)
		}
		if b := sameBytes(t, c); len(b) > 0 {
			b[s.next()*len(b)/256] = byte(s.next())
			sameRead(t, b)
		}
	}
}

// P11.1 to P11.4: many calls, one behind the other.
func TestScripts(t *testing.T) {
	random := rand.New(rand.NewSource(11))
	for range 1000 {
		text := make([]byte, 600)
		random.Read(text)
		follow(t, string(text))
	}
}

// P11.1: Read of bytes by chance, about those of chunks.
func TestReadByChance(t *testing.T) {
	random := rand.New(rand.NewSource(12))
	for range 20_000 {
		b := make([]byte, 64+random.Intn(30))
		for at := range b {
			if random.Intn(8) == 0 {
				b[at] = byte(random.Intn(17))
			}
		}
		sameRead(t, b)
	}
}

func FuzzChunk(f *testing.F) {
	f.Add("\x03\x05\xff\x09\x07\x00\x00\x00\x00\x00\x09\x0b\xf0\x01")
	f.Add("\x00\x00\xff\x01\x00\x01\x05\x00\x00\x00\x01\x05\x01\x00")
	f.Fuzz(func(t *testing.T, text string) {
		follow(t, text[:min(len(text), 2000)])
	})
}

func FuzzRead(f *testing.F) {
	f.Add(make([]byte, 67))
	f.Add(slices.Concat([]byte{3, 5, 9}, make([]byte, 63), []byte{1, 4, 1, 3}, make([]byte, 12)))
	f.Fuzz(func(t *testing.T, b []byte) {
		sameRead(t, b)
	})
}
