package trade

import (
	"homestead/api"
	"homestead/bag"
	"homestead/world"
)

// nobody is whom a player deals with that deals with none.
const nobody = -1

// askBoth answers what asks something of p and q, each beside the other one, and tells whether it holds of both.
func askBoth(p, q api.Player) func(holds func(one, other api.Player) bool) bool {
	return func(holds func(one, other api.Player) bool) bool {
		return holds(p, q) && holds(q, p)
	}
}

// mayDeal tells whether p and q may deal.
func mayDeal(p, q api.Player) bool {
	return askBoth(p, q)(isRightBeside)
}

// isRightBeside tells whether p would be a right player of a world that has another one, q. The greatest world has all places that any has.
func isRightBeside(p, q api.Player) bool {
	return p.Id != q.Id && world.Right(api.World{Size: api.MaxSize, Players: []api.Player{p}})
}

// dealsWith tells whether p deals with q.
func dealsWith(p, q api.Player) bool {
	return p.With == q.Id
}

// offerOf is what p offers; empty slots, if it deals with nobody yet.
func offerOf(p api.Player) []api.Slot {
	if p.With == nobody {
		return bag.New(api.BagSlots)
	}
	return p.Offer
}

// hasRoomFor tells whether p's bag has room for all that q offers.
func hasRoomFor(p, q api.Player) bool {
	return bag.Fits(p.Bag, q.Offer)
}

// filled is p's bag with all that q offers, which it has room for.
func filled(p, q api.Player) []api.Slot {
	l, _ := bag.All(p.Bag, q.Offer)
	return l
}

// unsettled is q when p has changed what it offers: if q deals with p, it does not agree any more.
func unsettled(q, p api.Player) api.Player {
	q.Agrees = q.Agrees && !dealsWith(q, p)
	return q
}

// free is p when it deals with nobody.
func free(p api.Player) api.Player {
	p.With, p.Offer, p.Agrees = nobody, nil, false
	return p
}
