package trade_test

import (
	"math"
	"math/rand"
	"slices"
	"testing"

	"homestead/api"
	"homestead/bag"
	"homestead/items"
	"homestead/world"
)

// The slow calls follow the chapter's words one by one, lean on the layers below, and move one of an item at a time.

// slowRight tells by layer 13's words whether p is a right player of the greatest world.
func slowRight(p api.Player) bool {
	isId := func(n int) bool { return n >= 0 && n <= 1<<30 }
	isPlace := func(n int) bool { return n >= 0 && n < 128 }
	if !isId(p.Id) || !isPlace(p.X) || !isPlace(p.Y) || !bag.Right(p.Bag, 8) {
		return false
	}
	if p.With == -1 {
		return len(p.Offer) == 0 && !p.Agrees
	}
	return isId(p.With) && p.With != p.Id && bag.Right(p.Offer, 8)
}

// slowMove puts n of i into l, one by one, and tells whether there is room for all of it.
func slowMove(l []api.Slot, i api.Item, n int) ([]api.Slot, bool) {
	for range n {
		left := 0
		if l, left = bag.Put(l, i, 1); left > 0 {
			return nil, false
		}
	}
	return slices.Clone(l), true
}

// slowAll puts all that more has into l, and tells whether there is room.
func slowAll(l, more []api.Slot) ([]api.Slot, bool) {
	out, fits := l, true
	for _, s := range more {
		if fits {
			out, fits = slowMove(out, s.Item, s.N)
		}
	}
	return out, fits
}

// slowRefuses tells the error of Offer that is met ahead of ErrRoom.
func slowRefuses(p, q api.Player, at, n int) api.Errno {
	switch {
	case !slowRight(p), !slowRight(q), p.Id == q.Id:
		return api.ErrPlayer
	case p.With >= 0 && p.With != q.Id:
		return api.ErrTrade
	case at < 0, at > 7:
		return api.ErrBag
	case n < 1:
		return api.ErrCount
	case p.Bag[at].N < n:
		return api.ErrWant
	}
	return api.OK
}

func slowOffer(at, n int) call {
	return func(p, q api.Player) told {
		if err := slowRefuses(p, q, at, n); err != api.OK {
			return told{P: p, Q: q, Err: err}
		}
		offered := make([]api.Slot, 8)
		if p.With == q.Id {
			offered = p.Offer
		}
		offered, fits := slowMove(offered, p.Bag[at].Item, n)
		if !fits {
			return told{P: p, Q: q, Err: api.ErrRoom}
		}
		out := told{P: clone(p), Q: clone(q)}
		out.P.Bag[at].N -= n
		if out.P.Bag[at].N == 0 {
			out.P.Bag[at].Item = api.Air
		}
		out.P.Offer, out.P.With, out.P.Agrees = offered, q.Id, false
		if q.With == p.Id {
			out.Q.Agrees = false
		}
		return out
	}
}

func slowAgree(p, q api.Player) told {
	out := told{P: clone(p), Q: clone(q)}
	switch {
	case !slowRight(p), !slowRight(q), p.Id == q.Id:
		out.Err = api.ErrPlayer
		return out
	case p.With != q.Id, q.With != p.Id:
		out.Err = api.ErrTrade
		return out
	case !q.Agrees:
		out.P.Agrees = true
		return out
	}
	mine, fits := slowAll(p.Bag, q.Offer)
	theirs, fit := slowAll(q.Bag, p.Offer)
	if !fits || !fit {
		out.Err = api.ErrRoom
		return out
	}
	out.P = api.Player{Id: p.Id, X: p.X, Y: p.Y, Bag: mine, With: -1}
	out.Q = api.Player{Id: q.Id, X: q.X, Y: q.Y, Bag: theirs, With: -1}
	out.Done = true
	return out
}

func slowCancel(p, q api.Player) told {
	out := told{P: clone(p), Q: clone(q)}
	switch {
	case !slowRight(p), !slowRight(q), p.Id == q.Id:
		out.Err = api.ErrPlayer
		return out
	case p.With != q.Id:
		out.Err = api.ErrTrade
		return out
	}
	l, fits := slowAll(p.Bag, p.Offer)
	if !fits {
		out.Err = api.ErrRoom
		return out
	}
	out.P = api.Player{Id: p.Id, X: p.X, Y: p.Y, Bag: l, With: -1}
	if q.With == p.Id {
		out.Q.Agrees = false
	}
	return out
}

// counts tells item by item how many some players have together, in bags and offers.
func counts(l ...api.Player) [math.MaxUint8 + 1]int {
	var out [math.MaxUint8 + 1]int
	for _, p := range l {
		for _, s := range slices.Concat(p.Bag, p.Offer) {
			out[s.Item] += s.N
		}
	}
	return out
}

// keeps complains unless what two have together is what it was, and right ones stayed right; unless a trade is done wholly, or not at all.
func keeps(t *testing.T, what string, p, q api.Player, out told) {
	t.Helper()
	if counts(p, q) != counts(out.P, out.Q) {
		t.Errorf("%s of %s and %s: %s: something was lost, or more", what, show(p), show(q), show(out))
	}
	for _, two := range [][2]api.Player{{p, out.P}, {q, out.Q}} {
		w := api.World{Size: 16, Players: []api.Player{two[0]}}
		v := api.World{Size: 16, Players: []api.Player{two[1]}}
		if world.Right(w) != world.Right(v) {
			t.Errorf("%s of %s and %s: %s: right %t", what, show(p), show(q), show(out), world.Right(v))
		}
	}
	if out.Done && (counts(out.P) != counts(api.Player{Bag: slices.Concat(p.Bag, q.Offer)}) || counts(out.Q) != counts(api.Player{Bag: slices.Concat(q.Bag, p.Offer)})) {
		t.Errorf("%s of %s and %s: %s: no whole trade", what, show(p), show(q), show(out))
	}
}

// same holds a call of p and q to the slow one, and to what follows (P14.4), and answers what it tells.
func same(t *testing.T, what string, do, slow call, p, q api.Player) told {
	t.Helper()
	out := answers(t, what, do, p, q, slow(p, q))
	keeps(t, what, p, q, out)
	return out
}

// sameOffer holds Offer of n of the slot at to the slow one.
func sameOffer(t *testing.T, p, q api.Player, at, n int) told {
	t.Helper()
	return same(t, "Offer "+show([]int{at, n}), offer(at, n), slowOffer(at, n), p, q)
}

// some are players of an Id, right and wrong, that deal with nobody, with one of the others, agreed or not, with and without room.
func some(t *testing.T, id int, others ...int) []api.Player {
	t.Helper()
	var out []api.Player
	for _, l := range []string{"", "5 dirt, 1 pick", picks7 + ", 14 dirt", picks} {
		p := player(t, "0; "+l)
		p.Id, p.X, p.Y = id, 3, 4
		out = append(out, p)
		for _, other := range others {
			for _, offered := range []string{"", "2 dirt", picks, "1 dirt, -, 15 dirt"} {
				q := clone(p)
				q.With, q.Offer = other, slots(t, offered)
				r := clone(q)
				r.Agrees = true
				out = append(out, q, r)
			}
		}
	}
	wrong := clone(out[0])
	wrong.Agrees = true
	return append(out, wrong)
}

// P14.1 to P14.4: all pairs of some players.
func TestPairs(t *testing.T) {
	for _, p := range some(t, 1, 2, 3) {
		for _, q := range slices.Concat(some(t, 2, 1, 3), some(t, 1, 2)[:2]) {
			same(t, "Agree", agree, slowAgree, p, q)
			same(t, "Cancel", cancel, slowCancel, p, q)
			for _, at := range []int{-1, 0, 7, 8} {
				for _, n := range []int{0, 1, 5} {
					sameOffer(t, p, q, at, n)
				}
			}
		}
	}
}

// script has numbers read off its bytes; behind its end there are noughts.
type script struct{ rest string }

func (s *script) next() int {
	if s.rest == "" {
		return 0
	}
	x := s.rest[0]
	s.rest = s.rest[1:]
	return int(x)
}

// slot is a right one, mostly; often a pick, of which a slot holds one alone.
func (s *script) slot() api.Slot {
	x := s.next()
	i := api.Item(x % (api.Items + 1))
	switch {
	case x == 255:
		return api.Slot{Item: i, N: s.next() - 100}
	case x >= 140:
		return api.Slot{Item: api.Pick, N: 1}
	}
	if i == api.Air {
		return api.Slot{}
	}
	return api.Slot{Item: i, N: 1 + s.next()%items.Stack(i)}
}

// bag is one of eight slots, of which most are filled.
func (s *script) bag() []api.Slot {
	l := make([]api.Slot, 8)
	filled := s.next() | s.next()
	for at := range l {
		if filled>>at&1 == 1 {
			l[at] = s.slot()
		}
	}
	return l
}

// spoilt is p with something that may make it wrong.
func (s *script) spoilt(p api.Player) api.Player {
	return changed(p, func(p *api.Player) {
		switch x := s.next(); x % 7 {
		case 0:
			p.Id = x/7 - 2
		case 1:
			p.X = x
		case 2:
			p.Y = x
		case 3:
			p.Bag = append(p.Bag, s.slot())
		case 4:
			p.With = x/7 - 2
		case 5:
			p.Offer = s.bag()
		default:
			p.Agrees = !p.Agrees
		}
	})
}

// step does one call of p and q, and the slow one beside it.
func (s *script) step(t *testing.T, p, q api.Player) told {
	t.Helper()
	switch x := s.next(); {
	case x < 120:
		return sameOffer(t, p, q, x%9, 1+s.next()%4)
	case x < 150:
		return sameOffer(t, p, q, x%11-1, s.next()%20-1)
	case x < 235:
		return same(t, "Agree", agree, slowAgree, p, q)
	default:
		return same(t, "Cancel", cancel, slowCancel, p, q)
	}
}

// follow does a script's calls one behind the other, of three or four players, and now and then calls of such as may be wrong.
func follow(t *testing.T, text string) {
	t.Helper()
	s := &script{rest: text}
	var l []api.Player
	for id := range 3 + s.next()%2 {
		l = append(l, api.Player{Id: id, X: s.next() % 128, Y: s.next() % 128, Bag: s.bag(), With: -1})
	}
	for s.rest != "" && !t.Failed() {
		// Mostly the first two deal, so that trades come about.
		x := s.next()
		one, other := x%2, 1-x%2
		if x >= 200 {
			one, other = x%len(l), s.next()%len(l)
		}
		if s.next() < 20 {
			s.step(t, s.spoilt(l[one]), l[other])
			s.step(t, l[one], s.spoilt(l[other]))
		}
		out := s.step(t, l[one], l[other])
		l[one], l[other] = out.P, out.Q
	}
}

// P14.1 to P14.4: many calls, one behind the other.
func TestScripts(t *testing.T) {
	random := rand.New(rand.NewSource(14))
	for range 1000 {
		text := make([]byte, 400)
		random.Read(text)
		follow(t, string(text))
	}
}

func FuzzTrade(f *testing.F) {
	f.Add("\x00\x05\x06\x01\x01\x04\x07\x08\x02\x0c\x00\x00\x00\xff\x00\xff\x00\x03\x01\xff\x01\x00\x00\xff\xa0\x01\xff\xa0")
	f.Add("\x01\x05\x06\x03\x01\x04\x02\x09\x07\x08\x01\x0c\x00\x00\x00\x00\x01\xff\x78\x03\xff\xf0")
	f.Fuzz(func(t *testing.T, text string) {
		follow(t, text[:min(len(text), 1000)])
	})
}
