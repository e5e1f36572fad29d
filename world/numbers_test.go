package world_test

import (
	"encoding/binary"
	"math"
	"slices"
	"strconv"
	"testing"

	"homestead/api"
	"homestead/chunk"
	"homestead/gen"
	"homestead/world"
)

// bytesOf are w's Bytes, which it has to have.
func bytesOf(t *testing.T, w api.World) []byte {
	t.Helper()
	b, err := world.Bytes(w)
	if err != api.OK {
		t.Fatalf("Bytes(%s): error %d", show(w), err)
	}
	return b
}

// refused complains unless Read takes b for no world.
func refused(t *testing.T, what string, b []byte) {
	t.Helper()
	w, err := world.Read(b)
	is(t, what+": Read("+show(b)+")", w, err, api.World{}, api.ErrState)
}

// hut is a small right world whose bytes are few.
func hut() api.World {
	return api.World{
		Size: 2, Seed: 300, Tick: 129,
		Chunks:  []api.Chunk{airy(0, 0, func(c *api.Chunk) {}), airy(1, 1, func(c *api.Chunk) { c.Cells[63] = api.Torch })},
		Players: []api.Player{alone(5, 15, 0, some(3, api.Dirt)), dealing(1<<30, 1, 15, 5, true, some(2, api.Leaf))},
	}
}

// noSlots are the bytes of slots that are empty.
func noSlots(many int) []byte {
	return make([]byte, 2*many)
}

// P13.3: Size, Seed, Tick; the chunks, each by a blob; the players: Id, X, Y, the slots, With and one, Agrees, the offer's slots.
func TestBytes(t *testing.T) {
	lit := make([]byte, 67)
	lit[0], lit[1], lit[65] = 1, 1, 10
	wanted := slices.Concat(
		[]byte{2, 172, 2, 129, 1},
		[]byte{2, 67}, make([]byte, 67), []byte{67}, lit,
		[]byte{2, 5, 15, 0, 1, 3}, noSlots(7), []byte{0, 0},
		[]byte{128, 128, 128, 128, 4, 1, 15, 3, 5}, noSlots(7), []byte{6, 1, 4, 2}, noSlots(7),
	)
	if b := bytesOf(t, hut()); !slices.Equal(b, wanted) {
		t.Errorf("%v, not %v", b, wanted)
	}
	w, err := world.Read(wanted)
	is(t, "Read", w, err, hut(), api.OK)
}

// P13.3: worlds of nothing have five numbers.
func TestBytesOfNothing(t *testing.T) {
	for _, c := range []struct {
		w    api.World
		want []byte
	}{
		{api.World{Size: 1}, []byte{1, 0, 0, 0, 0}},
		{api.World{Size: 16, Seed: 127, Tick: 128}, []byte{16, 127, 128, 1, 0, 0}},
		{api.World{Size: 3, Seed: math.MaxUint64, Tick: 1 << 40}, []byte{3, 255, 255, 255, 255, 255, 255, 255, 255, 255, 1, 128, 128, 128, 128, 128, 32, 0, 0}},
		{api.World{Size: 3, Seed: 1 << 63}, []byte{3, 128, 128, 128, 128, 128, 128, 128, 128, 128, 1, 0, 0, 0}},
	} {
		if b := bytesOf(t, c.w); !slices.Equal(b, c.want) {
			t.Errorf("%s: %v, not %v", show(c.w), b, c.want)
		}
		w, err := world.Read(c.want)
		is(t, "Read", w, err, c.w, api.OK)
	}
}

// P13.3: With and one, Agrees, and an offer, if there is one.
func TestBytesOfDeals(t *testing.T) {
	for _, c := range []struct {
		p    api.Player
		want []byte
	}{
		{alone(0, 0, 0), []byte{0, 0}},
		{dealing(1, 0, 0, 0, false), slices.Concat([]byte{1, 0}, noSlots(8))},
		{dealing(0, 0, 0, 126, true), slices.Concat([]byte{127, 1}, noSlots(8))},
		{dealing(0, 0, 0, 127, false, some(16, api.Berry), some(1, api.Pick)), slices.Concat([]byte{128, 1, 0, 11, 16, 12, 1}, noSlots(6))},
		{dealing(0, 0, 0, 1<<30, true), slices.Concat([]byte{129, 128, 128, 128, 4, 1}, noSlots(8))},
	} {
		w := api.World{Size: 1, Players: []api.Player{c.p}}
		wanted := slices.Concat([]byte{1, 0, 0, 0, 1, byte(c.p.Id), 0, 0, byte(c.p.Bag[0].Item), byte(c.p.Bag[0].N)}, noSlots(7), c.want)
		if b := bytesOf(t, w); !slices.Equal(b, wanted) {
			t.Errorf("%s: %v, not %v", show(c.p), b, wanted)
		}
		got, err := world.Read(wanted)
		is(t, "Read", got, err, w, api.OK)
	}
}

// P13.3: ErrState, unless the world is right.
func TestBytesOfWrong(t *testing.T) {
	for what, w := range wrongs() {
		if b, err := world.Bytes(w); err != api.ErrState || len(b) > 0 {
			t.Errorf("%s: %v, error %d", what, b, err)
		}
	}
}

// P13.4: Read(Bytes(w)) is w; what is at first, and is there all the same, is read as it stands.
func TestReadBack(t *testing.T) {
	for _, w := range append(rights(), hut()) {
		got, err := world.Read(bytesOf(t, w))
		is(t, "Read", got, err, w, api.OK)
	}
	w := api.World{Size: 1, Seed: 3, Chunks: []api.Chunk{gen.Chunk(3, 0, 0)}}
	b, _ := chunk.Bytes(gen.Chunk(3, 0, 0))
	got, err := world.Read(slices.Concat([]byte{1, 3, 0, 1, 67}, b, []byte{0}))
	is(t, "Read of a chunk at first", got, err, w, api.OK)
}

// P13.3: ErrState of bytes that are cut off, wherever that is, and of bytes with more behind them.
func TestReadCutOff(t *testing.T) {
	for _, w := range []api.World{{Size: 1}, hut(), village()} {
		b := bytesOf(t, w)
		for n := range b {
			refused(t, "cut off", b[:n])
		}
		for _, more := range []byte{0, 1, 9, 127, 128, 255} {
			refused(t, "more behind", append(slices.Clone(b), more))
		}
		refused(t, "twice", slices.Concat(b, b))
	}
	refused(t, "none", nil)
	refused(t, "none", []byte{})
	b := bytesOf(t, whole())
	for n := 0; n < len(b); n += 997 {
		refused(t, "cut off", b[:n])
	}
	refused(t, "cut off", b[:len(b)-1])
}

// P13.3: there is one form of each world: no number has bytes that its varint has not; and none runs over.
func TestReadOtherForms(t *testing.T) {
	for _, w := range []api.World{hut(), village()} {
		b := bytesOf(t, w)
		for at, n := range b {
			for _, more := range [][]byte{
				{128 | n, 0}, {128 | n, 128, 0},
				{128 | n, 2}, {128 | n, 128, 4}, {128 | n, 128, 128, 128, 16}, {128 | n, 128, 128, 128, 128, 128, 128, 128, 64},
				{128 | n, 128, 128, 128, 128, 128, 128, 128, 128, 1}, {255, 255, 255, 255, 255, 255, 255, 255, 255, 1},
				{128 | n, 128, 128, 128, 128, 128, 128, 128, 128, 2}, {128 | n, 128, 128, 128, 128, 128, 128, 128, 128, 128, 1},
			} {
				sameRead(t, slices.Concat(b[:at], more, b[at+1:]))
			}
		}
	}
}

// numbered are the bytes of a world of Size 1 with one player, of these numbers.
func numbered(numbers ...uint64) []byte {
	var out []byte
	for _, n := range numbers {
		out = binary.AppendUvarint(out, n)
	}
	return out
}

// P13.3: no number is taken for another one that it runs round to.
func TestReadRunsNotRound(t *testing.T) {
	right := []uint64{1, 9, 7, 0, 1, 4, 2, 3, 1, 5, 0, 0, 12, 1, 0, 0, 0, 0, 0, 0, 0, 0, 0, 0, 6, 1, 3, 9, 0, 0, 0, 0, 0, 0, 0, 0, 0, 0, 0, 0, 0, 0}
	w, err := world.Read(numbered(right...))
	p := dealing(4, 2, 3, 5, true, some(9, api.Wood))
	p.Bag = slots(8, some(5, api.Dirt), api.Slot{}, some(1, api.Pick))
	is(t, "Read", w, err, api.World{Size: 1, Seed: 9, Tick: 7, Players: []api.Player{p}}, api.OK)
	for at, n := range right {
		if at == 1 {
			continue // the seed may be any
		}
		for _, more := range []uint64{1 << 8, 1 << 16, 1 << 32, 1 << 53, 1 << 63, 1<<63 + 1<<8} {
			if at == 2 && more < 1<<40 || (at == 5 || at == 24) && more <= 1<<16 {
				continue
			}
			refused(t, "greater number "+strconv.Itoa(at), numbered(slices.Replace(slices.Clone(right), at, at+1, n+more)...))
		}
		refused(t, "the greatest number "+strconv.Itoa(at), numbered(slices.Replace(slices.Clone(right), at, at+1, math.MaxUint64)...))
	}
}

// P13.3: counts of chunks and players that are not there end at once.
func TestReadGreatCounts(t *testing.T) {
	for _, n := range []uint64{1, 2, 32, 33, 255, 256, 257, 1 << 20, 1 << 40, 1 << 63, math.MaxUint64} {
		refused(t, "chunks", numbered(16, 0, 0, n))
		refused(t, "chunks", numbered(16, 0, 0, n, 0))
		refused(t, "players", numbered(16, 0, 0, 0, n))
		refused(t, "players", numbered(16, 0, 0, 0, n, 0, 0))
		refused(t, "a chunk's bytes", numbered(16, 0, 0, 1, n))
		refused(t, "a chunk's bytes", numbered(16, 0, 0, 1, n, 0))
	}
	many := numbered(16, 0, 0, 257)
	for range 257 {
		b, _ := chunk.Bytes(stony(0, 0, 0))
		many = append(append(many, byte(len(b))), b...)
	}
	refused(t, "chunks too many", append(many, 0))
	many = numbered(16, 0, 0, 0, 33)
	for n := range uint64(33) {
		many = append(append(many, numbered(n, 0, 0)...), make([]byte, 18)...)
	}
	refused(t, "players too many", many)
}

// P13.3: ErrState of what would be the bytes of a world that is not right, unless they are those of another one, too.
func TestReadWrong(t *testing.T) {
	for _, w := range wrongs() {
		sameRead(t, slowWrite(w))
	}
	for _, what := range []string{"Size 0", "Size 4", "Size 17", "chunks backwards", "chunk 1 twice", "two players of one Id", "players too many", "deal of 1: with itself", "no deal of 0: it agrees"} {
		w, there := wrongs()[what]
		if !there {
			t.Fatal(what)
		}
		refused(t, what, slowWrite(w))
	}
	refused(t, "a chunk's bytes are more", slices.Concat([]byte{1, 0, 0, 1, 68}, make([]byte, 68), []byte{0}))
	refused(t, "a chunk's bytes are less", slices.Concat([]byte{1, 0, 0, 1, 66}, make([]byte, 67), []byte{0}))
	refused(t, "a chunk of no bytes", []byte{1, 0, 0, 1, 0, 0})
}

// P13.3: Read of bytes with one byte turned, left out or put in answers what the words say.
func TestReadTurned(t *testing.T) {
	for _, w := range []api.World{{Size: 1}, hut(), village()} {
		b := bytesOf(t, w)
		for at := range b {
			sameRead(t, slices.Delete(slices.Clone(b), at, at+1))
			for _, x := range []byte{0, 1, 2, 3, 4, 5, 7, 8, 9, 10, 11, 12, 13, 15, 16, 17, 32, 33, 39, 40, 41, 67, 127, 128, 129, 255} {
				turned := slices.Clone(b)
				turned[at] = x
				sameRead(t, turned)
				if x < 13 {
					sameRead(t, slices.Insert(slices.Clone(b), at, x))
				}
			}
		}
	}
}
