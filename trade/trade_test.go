package trade_test

import (
	"math"
	"testing"

	"homestead/api"
)

// Eight slots that are full, and what there is no room for in these but for one that is left.
const (
	picks  = "1 pick, 1 pick, 1 pick, 1 pick, 1 pick, 1 pick, 1 pick, 1 pick"
	picks7 = "1 pick, 1 pick, 1 pick, 1 pick, 1 pick, 1 pick, 1 pick"
	picks6 = "1 pick, 1 pick, 1 pick, 1 pick, 1 pick, 1 pick"
)

// offers complains unless p's offer of n of the slot at makes of p and q what the other texts tell.
func offers(t *testing.T, p, q string, at, n int, one, other string) {
	t.Helper()
	becomes(t, "Offer", offer(at, n), p, q, one, other, false)
}

// waits complains unless Agree makes of p and q what the other texts tell, and no trade is done.
func waits(t *testing.T, p, q, one, other string) {
	t.Helper()
	becomes(t, "Agree", agree, p, q, one, other, false)
}

// trades complains unless Agree makes of p and q what the other texts tell, and a trade is done.
func trades(t *testing.T, p, q, one, other string) {
	t.Helper()
	becomes(t, "Agree", agree, p, q, one, other, true)
}

// cancels complains unless Cancel makes of p and q what the other texts tell.
func cancels(t *testing.T, p, q, one, other string) {
	t.Helper()
	becomes(t, "Cancel", cancel, p, q, one, other, false)
}

// The chapter's example, step by step.
func TestExample(t *testing.T) {
	offers(t, "3; 5 dirt", "4; 1 pick", 0, 3, "3; 2 dirt; 4; 3 dirt", "4; 1 pick")
	offers(t, "4; 1 pick", "3; 2 dirt; 4; 3 dirt", 0, 1, "4; -; 3; 1 pick", "3; 2 dirt; 4; 3 dirt")
	waits(t, "3; 2 dirt; 4; 3 dirt", "4; -; 3; 1 pick", "3; 2 dirt; 4; 3 dirt; agrees", "4; -; 3; 1 pick")
	trades(t, "4; -; 3; 1 pick", "3; 2 dirt; 4; 3 dirt; agrees", "4; 3 dirt", "3; 2 dirt, 1 pick")
}

// P14.1: what is offered first begins a deal: it is out of the bag, and in the first slots of eight.
func TestOfferBegins(t *testing.T) {
	offers(t, "1; 5 dirt", "2; 1 pick", 0, 1, "1; 4 dirt; 2; 1 dirt", "2; 1 pick")
	offers(t, "1; 5 dirt", "2; 1 pick", 0, 4, "1; 1 dirt; 2; 4 dirt", "2; 1 pick")
	offers(t, "1; 5 dirt", "2; 1 pick", 0, 5, "1; -; 2; 5 dirt", "2; 1 pick")
	offers(t, "1; 16 dirt, 16 dirt", "2; ", 1, 16, "1; 16 dirt; 2; 16 dirt", "2; ")
	offers(t, "1; 3 wood, -, 4 chest, 2 wood", "2; ", 3, 1, "1; 3 wood, -, 4 chest, 1 wood; 2; 1 wood", "2; ")
	offers(t, "1; 3 wood, -, 4 chest, 2 wood", "2; ", 2, 4, "1; 3 wood, -, -, 2 wood; 2; 4 chest", "2; ")
	offers(t, "1; "+picks, "2; "+picks, 7, 1, "1; "+picks7+"; 2; 1 pick", "2; "+picks)
}

// P14.1: what is offered behind that goes first into slots of the offer that have it, from the first one on, then into empty ones.
func TestOfferMore(t *testing.T) {
	offers(t, "1; 2 dirt; 2; 3 dirt", "2; ", 0, 2, "1; -; 2; 5 dirt", "2; ")
	offers(t, "1; 9 dirt; 2; 15 dirt", "2; ", 0, 9, "1; -; 2; 16 dirt, 8 dirt", "2; ")
	offers(t, "1; 9 dirt; 2; -, 15 dirt, -, 14 dirt", "2; ", 0, 7, "1; 2 dirt; 2; 4 dirt, 16 dirt, -, 16 dirt", "2; ")
	offers(t, "1; 9 dirt, 8 leaf; 2; -, 15 dirt", "2; ", 1, 8, "1; 9 dirt; 2; 8 leaf, 15 dirt", "2; ")
	offers(t, "1; -, 1 pick; 2; "+picks7, "2; ", 1, 1, "1; ; 2; "+picks, "2; ")
	offers(t, "1; -, 16 wood; 2; "+picks7+", 10 wood", "2; ", 1, 6, "1; -, 10 wood; 2; "+picks7+", 16 wood", "2; ")
	offers(t, "1; 3 dirt; 2; ", "2; ", 0, 3, "1; ; 2; 3 dirt", "2; ")
}

// P14.1: neither agrees any more; q only if it deals with p: else it stays as it is.
func TestOfferUnsettles(t *testing.T) {
	offers(t, "1; 2 dirt; 2; ; agrees", "2; 1 pick; 1; 2 wood", 0, 1, "1; 1 dirt; 2; 1 dirt", "2; 1 pick; 1; 2 wood")
	offers(t, "1; 2 dirt; 2; ", "2; 1 pick; 1; 2 wood; agrees", 0, 1, "1; 1 dirt; 2; 1 dirt", "2; 1 pick; 1; 2 wood")
	offers(t, "1; 2 dirt; 2; ; agrees", "2; 1 pick; 1; 2 wood; agrees", 0, 1, "1; 1 dirt; 2; 1 dirt", "2; 1 pick; 1; 2 wood")
	offers(t, "1; 2 dirt", "2; 1 pick; 1; 2 wood; agrees", 0, 1, "1; 1 dirt; 2; 1 dirt", "2; 1 pick; 1; 2 wood")
	offers(t, "1; 2 dirt", "2; 1 pick; 3; 2 wood; agrees", 0, 1, "1; 1 dirt; 2; 1 dirt", "2; 1 pick; 3; 2 wood; agrees")
	offers(t, "1; 2 dirt; 2; ; agrees", "2; 1 pick; 3; 2 wood; agrees", 0, 1, "1; 1 dirt; 2; 1 dirt", "2; 1 pick; 3; 2 wood; agrees")
	offers(t, "1; 2 dirt; 2; ; agrees", "2; 1 pick; 3; 2 wood", 0, 1, "1; 1 dirt; 2; 1 dirt", "2; 1 pick; 3; 2 wood")
	offers(t, "1; 2 dirt; 2; ; agrees", "2; 1 pick", 0, 1, "1; 1 dirt; 2; 1 dirt", "2; 1 pick")
}

// P14.1: the least Id and the greatest one deal as others do.
func TestOfferEdges(t *testing.T) {
	offers(t, "0; 5 dirt", "1073741824; ", 0, 3, "0; 2 dirt; 1073741824; 3 dirt", "1073741824; ")
	offers(t, "1073741824; 5 dirt", "0; 1 wood; 1073741824; ; agrees", 0, 3, "1073741824; 2 dirt; 0; 3 dirt", "0; 1 wood; 1073741824; ")
	refuses(t, "Offer", offer(0, 3), "1073741824; 5 dirt; 0; ", "1; ", api.ErrTrade)
	refuses(t, "Offer", offer(0, 3), "1; 5 dirt; 1073741824; ", "0; ", api.ErrTrade)
}

// P14.1: ErrTrade, if p deals with somebody else, whomever q deals with.
func TestOfferToAnother(t *testing.T) {
	for _, p := range []string{"1; 5 dirt; 3; ", "1; 5 dirt; 3; 2 wood; agrees", "1; 5 dirt; 0; 2 wood"} {
		for _, q := range []string{"2; 1 pick", "2; 1 pick; 1; 1 dirt", "2; 1 pick; 1; 1 dirt; agrees", "2; 1 pick; 3; 1 dirt; agrees"} {
			refuses(t, "Offer", offer(0, 3), p, q, api.ErrTrade)
		}
	}
}

// P14.1: bag.Take's errors, in their order.
func TestOfferOfNoSlot(t *testing.T) {
	for _, p := range []string{"1; 5 dirt, -, 4 chest", "1; 5 dirt, -, 4 chest; 2; 3 wood", "1; 5 dirt, -, 4 chest; 2; 3 wood; agrees"} {
		for _, q := range []string{"2; 1 pick", "2; 1 pick; 1; 1 dirt; agrees", "2; 1 pick; 3; 1 dirt; agrees"} {
			for _, at := range []int{math.MinInt, -8, -1, 8, 9, 256, 1 << 32, math.MaxInt} {
				refuses(t, "Offer", offer(at, 3), p, q, api.ErrBag)
				refuses(t, "Offer", offer(at, 0), p, q, api.ErrBag)
				refuses(t, "Offer", offer(at, 99), p, q, api.ErrBag)
			}
			for _, n := range []int{math.MinInt, -1 << 32, -5, -1, 0} {
				refuses(t, "Offer", offer(0, n), p, q, api.ErrCount)
				refuses(t, "Offer", offer(1, n), p, q, api.ErrCount)
			}
			for _, n := range []int{6, 7, 16, 256 + 5, 1<<32 + 5, math.MaxInt} {
				refuses(t, "Offer", offer(0, n), p, q, api.ErrWant)
			}
			refuses(t, "Offer", offer(1, 1), p, q, api.ErrWant)
			refuses(t, "Offer", offer(7, 1), p, q, api.ErrWant)
			refuses(t, "Offer", offer(2, 5), p, q, api.ErrWant)
		}
	}
}

// P14.1: ErrRoom, if the offer has no room for all of it; then nothing is offered.
func TestOfferTooMuch(t *testing.T) {
	for _, q := range []string{"2; ", "2; 1 pick; 1; 1 dirt; agrees", "2; 1 pick; 3; 1 dirt; agrees"} {
		refuses(t, "Offer", offer(0, 1), "1; 5 dirt; 2; "+picks, q, api.ErrRoom)
		refuses(t, "Offer", offer(0, 1), "1; 5 dirt; 2; "+picks+"; agrees", q, api.ErrRoom)
		refuses(t, "Offer", offer(0, 1), "1; 1 pick; 2; "+picks7+", 1 dirt", q, api.ErrRoom)
		refuses(t, "Offer", offer(0, 5), "1; 5 dirt; 2; "+picks7+", 12 dirt; agrees", q, api.ErrRoom)
		refuses(t, "Offer", offer(0, 1), "1; 5 dirt; 2; "+picks7+", 16 dirt", q, api.ErrRoom)
		refuses(t, "Offer", offer(0, 4), "1; 4 chest; 2; "+picks7+", 1 chest", q, api.ErrRoom)
	}
}

// P14.1: of several errors the one named first is told.
func TestOfferOrder(t *testing.T) {
	refuses(t, "Offer", offer(8, 0), "1; 5 dirt; 3; "+picks, "2; ", api.ErrTrade)
	refuses(t, "Offer", offer(0, 0), "1; 5 dirt; 3; "+picks, "2; ", api.ErrTrade)
	refuses(t, "Offer", offer(0, 6), "1; 5 dirt; 3; "+picks, "2; ", api.ErrTrade)
	refuses(t, "Offer", offer(0, 5), "1; 5 dirt; 3; "+picks, "2; ", api.ErrTrade)
	refuses(t, "Offer", offer(8, 0), "1; 5 dirt; 2; "+picks, "2; ", api.ErrBag)
	refuses(t, "Offer", offer(0, 0), "1; 5 dirt; 2; "+picks, "2; ", api.ErrCount)
	refuses(t, "Offer", offer(0, 6), "1; 5 dirt; 2; "+picks, "2; ", api.ErrWant)
	refuses(t, "Offer", offer(0, 5), "1; 5 dirt; 2; "+picks, "2; ", api.ErrRoom)
}

// P14.2: if q does not agree yet, p agrees, be there room or not, and whether it has agreed already or not.
func TestAgreeAlone(t *testing.T) {
	waits(t, "1; 2 dirt; 2; 3 dirt", "2; ; 1; 1 pick", "1; 2 dirt; 2; 3 dirt; agrees", "2; ; 1; 1 pick")
	waits(t, "1; 2 dirt; 2; 3 dirt; agrees", "2; ; 1; 1 pick", "1; 2 dirt; 2; 3 dirt; agrees", "2; ; 1; 1 pick")
	waits(t, "1; ; 2; ", "2; ; 1; ", "1; ; 2; ; agrees", "2; ; 1; ")
	waits(t, "1; "+picks+"; 2; "+picks, "2; "+picks+"; 1; "+picks, "1; "+picks+"; 2; "+picks+"; agrees", "2; "+picks+"; 1; "+picks)
	waits(t, "1073741824; ; 0; 3 dirt", "0; 1 pick; 1073741824; ", "1073741824; ; 0; 3 dirt; agrees", "0; 1 pick; 1073741824; ")
}

// P14.2: if q agrees, each one's offer is put to the other one's bag; then both deal with nobody.
func TestAgreeTrades(t *testing.T) {
	trades(t, "1; 2 dirt; 2; 3 dirt", "2; 1 pick; 1; 4 wood; agrees", "1; 2 dirt, 4 wood", "2; 1 pick, 3 dirt")
	trades(t, "1; 2 dirt; 2; 3 dirt; agrees", "2; 1 pick; 1; 4 wood; agrees", "1; 2 dirt, 4 wood", "2; 1 pick, 3 dirt")
	trades(t, "1; 2 dirt; 2; ", "2; 1 pick; 1; 4 wood; agrees", "1; 2 dirt, 4 wood", "2; 1 pick")
	trades(t, "1; 2 dirt; 2; 3 dirt", "2; 1 pick; 1; ; agrees", "1; 2 dirt", "2; 1 pick, 3 dirt")
	trades(t, "1; ; 2; ", "2; ; 1; ; agrees", "1; ", "2; ")
	trades(t, "1; 2 dirt, -, 15 leaf; 2; 3 dirt", "2; 1 pick, -, 15 dirt; 1; 4 leaf, -, 2 dirt, 1 leaf; agrees", "1; 4 dirt, 4 leaf, 16 leaf", "2; 1 pick, 2 dirt, 16 dirt")
	trades(t, "0; ; 1073741824; "+picks, "1073741824; ; 0; 4 chest, 4 chest; agrees", "0; 4 chest, 4 chest", "1073741824; "+picks)
}

// P14.2: room is what a bag has as it stands, by slots that have the item, and by empty ones.
func TestAgreeJustFits(t *testing.T) {
	trades(t, "1; "+picks7+"; 2; 1 pick, 1 chest", "2; "+picks6+"; 1; 1 dirt; agrees", "1; "+picks7+", 1 dirt", "2; "+picks7+", 1 chest")
	trades(t, "1; "+picks7+", 10 dirt; 2; 16 wood", "2; "+picks7+", -; 1; 3 dirt, 3 dirt; agrees", "1; "+picks7+", 16 dirt", "2; "+picks7+", 16 wood")
	trades(t, "1; "+picks+"; 2; 16 dirt", "2; ; 1; ; agrees", "1; "+picks, "2; 16 dirt")
	trades(t, "1; ; 2; ", "2; "+picks+"; 1; "+picks+"; agrees", "1; "+picks, "2; "+picks)
}

// P14.2: ErrTrade, unless p deals with q, and q with p.
func TestAgreeToNothing(t *testing.T) {
	for _, p := range []string{"1; 5 dirt", "1; 5 dirt; 3; 2 wood", "1; 5 dirt; 3; 2 wood; agrees"} {
		for _, q := range []string{"2; 1 pick", "2; 1 pick; 1; 1 dirt", "2; 1 pick; 1; 1 dirt; agrees", "2; 1 pick; 3; 1 dirt; agrees"} {
			refuses(t, "Agree", agree, p, q, api.ErrTrade)
		}
	}
	for _, p := range []string{"1; 5 dirt; 2; 2 wood", "1; 5 dirt; 2; 2 wood; agrees"} {
		for _, q := range []string{"2; 1 pick", "2; 1 pick; 3; 1 dirt", "2; 1 pick; 3; 1 dirt; agrees"} {
			refuses(t, "Agree", agree, p, q, api.ErrTrade)
		}
	}
	refuses(t, "Agree", agree, "1; "+picks+"; 2; "+picks, "2; "+picks+"; 3; "+picks+"; agrees", api.ErrTrade)
	refuses(t, "Agree", agree, "1; "+picks+"; 3; "+picks, "2; "+picks+"; 1; "+picks+"; agrees", api.ErrTrade)
}

// P14.2: ErrRoom, if one of the bags has no room for what the other one offers; then p does not agree by that, and nothing is traded.
func TestAgreeNoRoom(t *testing.T) {
	for _, agrees := range []string{"", "; agrees"} {
		refuses(t, "Agree", agree, "1; "+picks+"; 2; 3 dirt"+agrees, "2; ; 1; 1 dirt; agrees", api.ErrRoom)
		refuses(t, "Agree", agree, "1; ; 2; 3 dirt"+agrees, "2; "+picks+"; 1; 1 dirt; agrees", api.ErrRoom)
		refuses(t, "Agree", agree, "1; "+picks+"; 2; 3 dirt"+agrees, "2; "+picks+"; 1; 1 dirt; agrees", api.ErrRoom)
		refuses(t, "Agree", agree, "1; "+picks7+", 16 dirt; 2; 3 dirt"+agrees, "2; ; 1; 1 dirt; agrees", api.ErrRoom)
		refuses(t, "Agree", agree, "1; "+picks7+", 11 dirt; 2; "+agrees, "2; ; 1; 3 dirt, 3 dirt; agrees", api.ErrRoom)
		refuses(t, "Agree", agree, "1; ; 2; 1 wood, 1 leaf"+agrees, "2; "+picks7+"; 1; 1 dirt; agrees", api.ErrRoom)
		refuses(t, "Agree", agree, "1; ; 2; "+picks7+agrees, "2; 1 wood, 1 leaf; 1; 1 dirt; agrees", api.ErrRoom)
	}
}

// P14.3: what p offers is put back to its bag; p deals with nobody then, whomever q deals with; q, if it deals with p, does not agree any more.
func TestCancel(t *testing.T) {
	for _, agrees := range []string{"", "; agrees"} {
		p := "1; 2 dirt, 1 pick; 2; 3 dirt, 4 wood" + agrees
		const back = "1; 5 dirt, 1 pick, 4 wood"
		cancels(t, p, "2; 1 pick", back, "2; 1 pick")
		cancels(t, p, "2; 1 pick; 1; 1 leaf", back, "2; 1 pick; 1; 1 leaf")
		cancels(t, p, "2; 1 pick; 1; 1 leaf; agrees", back, "2; 1 pick; 1; 1 leaf")
		cancels(t, p, "2; 1 pick; 3; 1 leaf", back, "2; 1 pick; 3; 1 leaf")
		cancels(t, p, "2; 1 pick; 3; 1 leaf; agrees", back, "2; 1 pick; 3; 1 leaf; agrees")
		cancels(t, "1; 2 dirt; 2; "+agrees, "2; ", "1; 2 dirt", "2; ")
		cancels(t, "1; -, 15 dirt; 2; 1 leaf, -, 3 dirt, 2 leaf"+agrees, "2; ", "1; 3 leaf, 16 dirt, 2 dirt", "2; ")
		cancels(t, "1; "+picks7+"; 2; 1 pick"+agrees, "2; "+picks, "1; "+picks, "2; "+picks)
		cancels(t, "1; "+picks7+", 10 dirt; 2; 3 dirt, 3 dirt"+agrees, "2; ", "1; "+picks7+", 16 dirt", "2; ")
		cancels(t, "1; "+picks+"; 2; "+agrees, "2; ; 1; "+picks+"; agrees", "1; "+picks, "2; ; 1; "+picks)
		cancels(t, "1; ; 2; "+picks+agrees, "2; ", "1; "+picks, "2; ")
		cancels(t, "0; 2 dirt; 1073741824; 3 dirt"+agrees, "1073741824; 1 pick; 0; 1 leaf; agrees", "0; 5 dirt", "1073741824; 1 pick; 0; 1 leaf")
		cancels(t, "1073741824; 2 dirt; 0; 3 dirt"+agrees, "0; 1 pick; 1073741824; 1 leaf; agrees", "1073741824; 5 dirt", "0; 1 pick; 1073741824; 1 leaf")
	}
}

// P14.3: ErrTrade, unless p deals with q.
func TestCancelNothing(t *testing.T) {
	for _, p := range []string{"1; 5 dirt", "1; 5 dirt; 3; 2 wood", "1; 5 dirt; 3; 2 wood; agrees", "1; " + picks + "; 3; " + picks} {
		for _, q := range []string{"2; 1 pick", "2; 1 pick; 1; 1 dirt", "2; 1 pick; 1; 1 dirt; agrees", "2; 1 pick; 3; 1 dirt; agrees"} {
			refuses(t, "Cancel", cancel, p, q, api.ErrTrade)
		}
	}
}

// P14.3: ErrRoom, if p's bag has no room for what it offers; then it deals on.
func TestCancelNoRoom(t *testing.T) {
	for _, agrees := range []string{"", "; agrees"} {
		for _, q := range []string{"2; ", "2; ; 1; 1 dirt; agrees", "2; ; 3; 1 dirt; agrees", "2; 1 pick; 1; "} {
			refuses(t, "Cancel", cancel, "1; "+picks+"; 2; 1 dirt"+agrees, q, api.ErrRoom)
			refuses(t, "Cancel", cancel, "1; "+picks7+"; 2; 1 dirt, 1 leaf"+agrees, q, api.ErrRoom)
			refuses(t, "Cancel", cancel, "1; "+picks7+", 11 dirt; 2; 3 dirt, 3 dirt"+agrees, q, api.ErrRoom)
			refuses(t, "Cancel", cancel, "1; 1 dirt; 2; "+picks+agrees, q, api.ErrRoom)
		}
	}
}

// P14.3: one that has cancelled may deal with another one, and again with the same; the other one still deals with it.
func TestCancelThenOffer(t *testing.T) {
	p, q, r := player(t, "1; 2 dirt; 2; 3 dirt"), player(t, "2; 1 pick; 1; 4 wood; agrees"), player(t, "3; 7 leaf")
	out := cancel(p, q)
	answers(t, "Agree", agree, out.P, out.Q, told{out.P, out.Q, false, api.ErrTrade})
	answers(t, "Agree", agree, out.Q, out.P, told{out.Q, out.P, false, api.ErrTrade})
	answers(t, "Offer", offer(0, 1), out.P, r, told{player(t, "1; 4 dirt; 3; 1 dirt"), r, false, api.OK})
	answers(t, "Offer", offer(0, 1), out.P, out.Q, told{player(t, "1; 4 dirt; 2; 1 dirt"), out.Q, false, api.OK})
	answers(t, "Offer", offer(0, 1), out.Q, r, told{out.Q, r, false, api.ErrTrade})
	answers(t, "Cancel", cancel, out.Q, out.P, told{player(t, "2; 1 pick, 4 wood"), out.P, false, api.OK})
}
