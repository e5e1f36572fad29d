package trade_test

import (
	"math"
	"strconv"
	"testing"

	"homestead/api"
)

// addWrong adds players that are not right by one thing alone.
type addWrong func(what string, change func(p *api.Player))

// wrongs are players that are not right, each by one thing alone (made of the right one p, which deals with somebody), by what that is.
func wrongs(p api.Player) map[string]api.Player {
	out := map[string]api.Player{"nothing": {}}
	add := func(what string, change func(p *api.Player)) { out[what] = changed(p, change) }
	for _, n := range []int{math.MinInt, -2, -1, 1<<30 + 1, 1 << 32, 1<<32 + 1, math.MaxInt} {
		add("Id "+strconv.Itoa(n), func(p *api.Player) { p.Id = n })
	}
	for _, n := range []int{math.MinInt, -8, -1, 128, 129, 256, 1 << 32, math.MaxInt} {
		add("X "+strconv.Itoa(n), func(p *api.Player) { p.X = n })
		add("Y "+strconv.Itoa(n), func(p *api.Player) { p.Y = n })
	}
	for _, n := range []int{math.MinInt, -3, -2, p.Id, 1<<30 + 1, 1 << 32, math.MaxInt} {
		add("with "+strconv.Itoa(n), func(p *api.Player) { p.With = n })
	}
	addWrongBags(add)
	add("with nobody, but an offer", func(p *api.Player) { p.With, p.Agrees = -1, false })
	add("with nobody, but an offer of one slot", func(p *api.Player) { p.With, p.Offer, p.Agrees = -1, make([]api.Slot, 1), false })
	add("with nobody, but it agrees", func(p *api.Player) { p.With, p.Offer, p.Agrees = -1, nil, true })
	return out
}

// addWrongBags adds players that are wrong by their bag, or by what they offer.
func addWrongBags(add addWrong) {
	for _, n := range []int{0, 1, 6, 7, 9, 16, 1000} {
		add("a bag of "+strconv.Itoa(n)+" slots", func(p *api.Player) { p.Bag = make([]api.Slot, n) })
		add("an offer of "+strconv.Itoa(n)+" slots", func(p *api.Player) { p.Offer = make([]api.Slot, n) })
	}
	for _, s := range []api.Slot{
		{Item: api.Dirt, N: 17}, {Item: api.Pick, N: 2}, {Item: api.Chest, N: 5}, {Item: api.Dirt}, {Item: api.Dirt, N: -1}, {N: 1}, {N: -1},
		{Item: 13, N: 1}, {Item: 13}, {Item: 255, N: 1}, {Item: api.Dirt, N: math.MinInt}, {Item: api.Dirt, N: math.MaxInt},
	} {
		for slot := range 8 {
			add("slot "+strconv.Itoa(slot)+" with "+show(s), func(p *api.Player) { p.Bag[slot] = s })
			add("an offer's slot "+strconv.Itoa(slot)+" with "+show(s), func(p *api.Player) { p.Offer[slot] = s })
		}
	}
}

// calls are all calls of the layer, with numbers that Offer takes, and with such as it refuses.
func calls() map[string]call {
	return map[string]call{"Offer": offer(0, 1), "Offer of no slot": offer(8, 0), "Offer of none": offer(0, 0), "Offer of too many": offer(0, 17), "Agree": agree, "Cancel": cancel}
}

// refusesAll complains unless all calls of p and q tell ErrPlayer, and leave them as they are.
func refusesAll(t *testing.T, why string, p, q api.Player) {
	t.Helper()
	for what, do := range calls() {
		answers(t, what+" ("+why+")", do, p, q, told{p, q, false, api.ErrPlayer})
	}
}

// P14.1 to P14.3: ErrPlayer, unless both are right players, ahead of all other errors, and as they are.
func TestWrongPlayers(t *testing.T) {
	p, q := player(t, "1; 5 dirt; 2; 3 wood; agrees"), player(t, "2; 1 pick; 1; 4 leaf; agrees")
	others := []api.Player{q, player(t, "2; 1 pick"), player(t, "2; 1 pick; 3; 4 leaf"), player(t, "2; "+picks+"; 1; "+picks)}
	for why, wrong := range wrongs(p) {
		for _, other := range others {
			refusesAll(t, why, wrong, other)
			refusesAll(t, why, other, wrong)
		}
		refusesAll(t, why, wrong, wrong)
	}
	for why, wrong := range wrongs(q) {
		refusesAll(t, why, p, wrong)
		refusesAll(t, why, wrong, p)
	}
}

// P14.1 to P14.3: ErrPlayer, if both have one Id, be they the same or not.
func TestOneId(t *testing.T) {
	l := []api.Player{player(t, "1; 5 dirt"), player(t, "1; 1 pick"), player(t, "1; 5 dirt; 2; 3 wood"), player(t, "1; 5 dirt; 3; 3 wood; agrees")}
	for _, p := range l {
		for _, q := range l {
			q.X, q.Y = 3, 4
			refusesAll(t, "one Id", p, p)
			refusesAll(t, "one Id", p, q)
		}
	}
}

// P14.1 to P14.3: all places that a world has may be a player's, wherever the other one is, be it the same place; and they stay as they are.
func TestPlaces(t *testing.T) {
	at := func(text string, x, y int) api.Player {
		return changed(player(t, text), func(p *api.Player) { p.X, p.Y = x, y })
	}
	for _, x := range []int{0, 1, 7, 8, 63, 64, 126, 127} {
		for _, y := range []int{0, 1, 7, 8, 63, 64, 126, 127} {
			for _, other := range [][2]int{{0, 0}, {127, 127}, {x, y}, {y, x}} {
				q := at("2; 1 pick; 1; 4 wood; agrees", other[0], other[1])
				answers(t, "Offer", offer(0, 3), at("1; 5 dirt", x, y), q, told{at("1; 2 dirt; 2; 3 dirt", x, y), changed(q, func(q *api.Player) { q.Agrees = false }), false, api.OK})
				answers(t, "Agree", agree, at("1; 2 dirt; 2; 3 dirt", x, y), q, told{at("1; 2 dirt, 4 wood", x, y), at("2; 1 pick, 3 dirt", other[0], other[1]), true, api.OK})
				answers(t, "Cancel", cancel, at("1; 2 dirt; 2; 3 dirt", x, y), q, told{at("1; 5 dirt", x, y), changed(q, func(q *api.Player) { q.Agrees = false }), false, api.OK})
			}
		}
	}
}

// P14.1 to P14.3: an empty list is as good as none (R6): one that deals with nobody may have an offer of no slots.
func TestEmptyOffer(t *testing.T) {
	p, q := player(t, "1; 5 dirt"), player(t, "2; 1 pick")
	p.Offer, q.Offer = []api.Slot{}, make([]api.Slot, 0, 9)
	answers(t, "Offer", offer(0, 3), p, q, told{player(t, "1; 2 dirt; 2; 3 dirt"), q, false, api.OK})
	answers(t, "Cancel", cancel, p, q, told{p, q, false, api.ErrTrade})
}
