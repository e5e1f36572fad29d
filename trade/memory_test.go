package trade_test

import (
	"slices"
	"sync"
	"testing"

	"homestead/api"
)

// ends are handings of two players, and what a call makes of them: each call done, and each of its errors told.
type ends struct {
	what string
	do   call
	p, q string
	err  api.Errno
}

func eachEnd() []ends {
	full := "2; " + picks + "; 1; 4 wood; agrees"
	return []ends{
		{"Offer", offer(0, 3), "1; 5 dirt", "2; 1 pick", api.OK},
		{"Offer of more", offer(0, 3), "1; 5 dirt; 2; 3 wood; agrees", "2; 1 pick; 1; 4 wood; agrees", api.OK},
		{"Offer to one that deals elsewhere", offer(0, 3), "1; 5 dirt; 2; 3 wood", "2; 1 pick; 3; 4 wood; agrees", api.OK},
		{"Offer, ErrPlayer", offer(0, 3), "1; 5 dirt; 1; 3 wood", "2; 1 pick; 1; 4 wood; agrees", api.ErrPlayer},
		{"Offer, ErrTrade", offer(0, 3), "1; 5 dirt; 3; 3 wood", "2; 1 pick; 1; 4 wood; agrees", api.ErrTrade},
		{"Offer, ErrBag", offer(8, 3), "1; 5 dirt; 2; 3 wood", full, api.ErrBag},
		{"Offer, ErrCount", offer(0, 0), "1; 5 dirt; 2; 3 wood", full, api.ErrCount},
		{"Offer, ErrWant", offer(0, 6), "1; 5 dirt", full, api.ErrWant},
		{"Offer, ErrRoom", offer(0, 3), "1; 5 dirt; 2; " + picks, full, api.ErrRoom},
		{"Agree", agree, "1; 5 dirt; 2; 3 wood", "2; 1 pick; 1; 4 wood", api.OK},
		{"Agree once more", agree, "1; 5 dirt; 2; 3 wood; agrees", "2; 1 pick; 1; 4 wood", api.OK},
		{"Agree to what q agrees to", agree, "1; 5 dirt; 2; 3 wood", "2; 1 pick; 1; 4 wood; agrees", api.OK},
		{"Agree to nothing for nothing", agree, "1; 5 dirt; 2; ", "2; 1 pick; 1; ; agrees", api.OK},
		{"Agree, ErrPlayer", agree, "1; 5 dirt; 1; 3 wood", "2; 1 pick; 1; 4 wood; agrees", api.ErrPlayer},
		{"Agree, ErrTrade", agree, "1; 5 dirt; 2; 3 wood", "2; 1 pick; 3; 4 wood; agrees", api.ErrTrade},
		{"Agree, ErrRoom", agree, "1; 5 dirt; 2; 3 wood", full, api.ErrRoom},
		{"Cancel", cancel, "1; 5 dirt; 2; 3 wood", "2; 1 pick; 1; 4 wood; agrees", api.OK},
		{"Cancel of nothing", cancel, "1; 5 dirt; 2; ", "2; 1 pick", api.OK},
		{"Cancel, ErrPlayer", cancel, "1; 5 dirt; 1; 3 wood", "2; 1 pick; 1; 4 wood; agrees", api.ErrPlayer},
		{"Cancel, ErrTrade", cancel, "1; 5 dirt; 3; 3 wood", "2; 1 pick; 1; 4 wood; agrees", api.ErrTrade},
		{"Cancel, ErrRoom", cancel, "1; " + picks + "; 2; 3 wood", "2; 1 pick; 1; 4 wood; agrees", api.ErrRoom},
	}
}

// lists are all lists that players have, with their spare room.
func lists(l ...api.Player) [][]api.Slot {
	var out [][]api.Slot
	for _, p := range l {
		out = append(out, p.Bag[:cap(p.Bag)], p.Offer[:cap(p.Offer)])
	}
	return out
}

// shares tells whether two of some lists' memories overlap.
func shares(l [][]api.Slot) bool {
	where := map[*api.Slot]int{}
	for _, one := range l {
		for at := range one {
			where[&one[at]]++
		}
	}
	for _, many := range where {
		if many > 1 {
			return true
		}
	}
	return false
}

// roomy is p in memory of its own, each list with something behind it.
func roomy(p api.Player) api.Player {
	behind := api.Slot{Item: api.Stone, N: 7}
	p.Bag = append(slices.Clone(p.Bag), behind, behind)[:len(p.Bag)]
	p.Offer = append(slices.Clone(p.Offer), behind, behind)[:len(p.Offer)]
	return p
}

// showWhole is what players have, with all that stands in their lists' spare room.
func showWhole(l ...api.Player) string {
	return show(l) + show(lists(l...))
}

// spoil writes over all that players' lists have, and their spare room.
func spoil(l ...api.Player) {
	for _, one := range lists(l...) {
		for at := range one {
			one[at] = api.Slot{Item: api.Pick, N: -1}
		}
	}
}

// R3: what is handed in stays as it is, its spare room too; what is answered, beside an error too, shares no memory with it, nor do two lists of answers.
func TestAnswersAreNew(t *testing.T) {
	for _, c := range eachEnd() {
		p, q := roomy(player(t, c.p)), roomy(player(t, c.q))
		as := showWhole(p, q)
		first, second := c.do(p, q), c.do(p, q)
		if showWhole(p, q) != as {
			t.Errorf("%s: %s became %s", c.what, as, showWhole(p, q))
		}
		if first.Err != c.err || show(first) != show(second) {
			t.Errorf("%s: %s, then %s", c.what, show(first), show(second))
		}
		if shares(lists(p, q, first.P, first.Q, second.P, second.Q)) {
			t.Errorf("%s: memory is shared", c.what)
		}
		wanted := show(second)
		spoil(p, q, first.P, first.Q)
		if show(second) != wanted {
			t.Errorf("%s: the answer is %s, not %s", c.what, show(second), wanted)
		}
	}
}

// R3: no two lists of one answer share memory, even if those that were handed in do; and all is as if they did not.
func TestListsOfAnAnswer(t *testing.T) {
	for _, c := range eachEnd() {
		p, q := player(t, c.p), player(t, c.q)
		one := slots(t, "5 dirt, 3 wood")
		p.Bag, q.Bag = one, one
		for _, two := range []*api.Player{&p, &q} {
			if two.With != -1 {
				two.Offer = one
			}
		}
		wanted := c.do(clone(p), clone(q))
		got := c.do(p, q)
		if show(got) != show(wanted) || shares(lists(got.P, got.Q)) || !slices.Equal(one, slots(t, "5 dirt, 3 wood")) {
			t.Errorf("%s: %s and not %s, of %s", c.what, show(got), show(wanted), show(one))
		}
	}
}

// R3: of an empty list nothing is kept, not even its spare room; this holds for what is refused, too.
func TestEmptyListsKeepNothing(t *testing.T) {
	room := make([]api.Slot, 9)
	for _, p := range []api.Player{{Id: 1, Bag: room[:8], With: -1, Offer: room[8:8]}, {Id: -1, Bag: room[:0], Offer: room[:0]}} {
		for what, do := range calls() {
			out := do(p, p)
			for _, l := range lists(out.P, out.Q) {
				if shares([][]api.Slot{l, room}) {
					t.Errorf("%s: memory is shared", what)
				}
			}
		}
	}
}

// R4: many may ask of two players at once, and are told the same.
func TestManyAsk(t *testing.T) {
	for _, c := range eachEnd() {
		p, q := player(t, c.p), player(t, c.q)
		wanted := show(c.do(p, q))
		var asking sync.WaitGroup
		for range 8 {
			asking.Go(func() {
				for range 20 {
					out := c.do(p, q)
					if show(out) != wanted {
						t.Errorf("%s: %s and not %s", c.what, show(out), wanted)
					}
					spoil(out.P, out.Q)
				}
			})
		}
		asking.Wait()
	}
}
