package world

import (
	"math"

	"homestead/api"
	"homestead/bytes"
	"homestead/chunk"
)

// Bytes answers a right world as bytes.
func Bytes(w api.World) ([]byte, api.Errno) {
	if !Right(w) {
		return nil, api.ErrState
	}
	out := bytes.Uint(nil, uint64(w.Size))
	out = bytes.Uint(out, w.Seed)
	out = bytes.Uint(out, uint64(w.Tick))
	out = bytes.Uint(out, uint64(len(w.Chunks)))
	for _, c := range w.Chunks {
		// A right world's chunks are right, so that each has its bytes.
		b, _ := chunk.Bytes(c)
		out = append(out, bytes.Blob(nil, b)...)
	}
	out = bytes.Uint(out, uint64(len(w.Players)))
	for _, p := range w.Players {
		out = putPlayer(out, p)
	}
	return out, api.OK
}

// putPlayer answers out with a right player behind it, whose Offer has no slots if it deals with nobody.
func putPlayer(out []byte, p api.Player) []byte {
	number := func(n int) { out = bytes.Uint(out, uint64(n)) }
	slots := func(l []api.Slot) {
		for _, s := range l {
			number(int(s.Item))
			number(s.N)
		}
	}
	number(p.Id)
	number(p.X)
	number(p.Y)
	slots(p.Bag)
	number(p.With + 1)
	if p.Agrees {
		number(1)
	} else {
		number(0)
	}
	slots(p.Offer)
	return out
}

// Read answers the right world whose bytes b are.
func Read(b []byte) (api.World, api.Errno) {
	r := reader{rest: b}
	w := r.world()
	if r.failed || len(r.rest) > 0 || !Right(w) {
		return api.World{}, api.ErrState
	}
	return w, api.OK
}

// reader takes what a world's bytes have from the begin of some, and remembers whether something was none.
type reader struct {
	rest   []byte
	failed bool
}

// wide takes a number of up to 64 bits, up to most; behind a failure it answers 0, so that whoever reads need not ask each time.
func (r *reader) wide(most uint64) uint64 {
	n, next, err := bytes.GetUint(r.rest, 0)
	if r.failed || err != api.OK || n > most {
		r.failed = true
		return 0
	}
	r.rest = r.rest[next:]
	return n
}

// number takes one that is an int.
func (r *reader) number(most int) int {
	return int(r.wide(uint64(most)))
}

// world takes one, right or not.
func (r *reader) world() api.World {
	w := api.World{Size: r.number(api.MaxSize), Seed: r.wide(math.MaxUint64), Tick: r.number(maxTick)}
	for range r.number(api.MaxSize * api.MaxSize) {
		w.Chunks = append(w.Chunks, r.chunk())
	}
	for range r.number(api.MaxPlayers) {
		w.Players = append(w.Players, r.player())
	}
	return w
}

// chunk takes one: where there is no blob there are no bytes, which are no chunk's.
func (r *reader) chunk() api.Chunk {
	b, next, _ := bytes.GetBlob(r.rest, 0, len(r.rest))
	c, err := chunk.Read(b)
	r.failed = r.failed || err != api.OK
	r.rest = r.rest[next:]
	return c
}

// player takes one, right or not.
func (r *reader) player() api.Player {
	p := api.Player{Id: r.number(maxId), X: r.number(math.MaxUint8), Y: r.number(math.MaxUint8), Bag: r.slots()}
	p.With = r.number(maxId+1) - 1
	p.Agrees = r.number(1) == 1
	if p.With != nobody {
		p.Offer = r.slots()
	}
	return p
}

// slots takes those of a bag, right or not: no right one has numbers beyond a byte.
func (r *reader) slots() []api.Slot {
	l := make([]api.Slot, api.BagSlots)
	for at := range l {
		l[at] = api.Slot{Item: api.Item(r.number(math.MaxUint8)), N: r.number(math.MaxUint8)}
	}
	return l
}
