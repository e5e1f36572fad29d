package trade_test

import (
	"fmt"
	"math"
	"slices"
	"strconv"
	"strings"
	"testing"

	"homestead/api"
	"homestead/items"
	"homestead/trade"
)

// itemOf is what texts of these tests call so.
func itemOf(t *testing.T, name string) api.Item {
	t.Helper()
	for i := range api.Item(math.MaxUint8) {
		if items.Name(i) == name {
			return i
		}
	}
	t.Fatalf("item %q", name)
	return api.Air
}

// numberOf is that which a text tells.
func numberOf(t *testing.T, text string) int {
	t.Helper()
	n, err := strconv.Atoi(text)
	if err != nil {
		t.Fatal(err)
	}
	return n
}

// slots are eight, the first ones as text tells: "16 dirt, -, 1 pick"; a dash is an empty one.
func slots(t *testing.T, text string) []api.Slot {
	t.Helper()
	l := make([]api.Slot, 8)
	for at, part := range strings.Split(text, ", ") {
		if count, name, some := strings.Cut(part, " "); some {
			l[at] = api.Slot{Item: itemOf(t, name), N: numberOf(t, count)}
		} else if part != "-" && text != "" {
			t.Fatalf("slots %q", text)
		}
	}
	return l
}

// player is the one that text tells: its Id, its bag, and, if it deals with one, with whom, what it offers, and whether it agrees: "3; 16 dirt; 4; 1 pick; agrees". Its place hangs on its Id.
func player(t *testing.T, text string) api.Player {
	t.Helper()
	part := strings.Split(text, "; ")
	id := numberOf(t, part[0])
	p := api.Player{Id: id, X: id % 128, Y: 127 - id%128, Bag: slots(t, part[1]), With: -1}
	if len(part) > 2 {
		p.With, p.Offer = numberOf(t, part[2]), slots(t, part[3])
		p.Agrees = len(part) > 4 && part[4] == "agrees"
	}
	return p
}

// show is a player, or more of them, as a text: unlike ones have unlike texts, but that an empty list and none are the same.
func show(x any) string {
	return fmt.Sprintf("%+v", x)
}

// clone is p in memory of its own.
func clone(p api.Player) api.Player {
	p.Bag, p.Offer = slices.Clone(p.Bag), slices.Clone(p.Offer)
	return p
}

// changed is p with a change, in memory of its own.
func changed(p api.Player, change func(p *api.Player)) api.Player {
	p = clone(p)
	change(&p)
	return p
}

// told is what a call answers of two players.
type told struct {
	P, Q api.Player
	Done bool
	Err  api.Errno
}

// call is one of two players.
type call func(p, q api.Player) told

// offer is the call Offer of n of the slot at.
func offer(at, n int) call {
	return func(p, q api.Player) told {
		p, q, err := trade.Offer(p, q, at, n)
		return told{p, q, false, err}
	}
}

// agree is the call Agree.
func agree(p, q api.Player) told {
	p, q, done, err := trade.Agree(p, q)
	return told{p, q, done, err}
}

// cancel is the call Cancel.
func cancel(p, q api.Player) told {
	p, q, err := trade.Cancel(p, q)
	return told{p, q, false, err}
}

// answers complains unless a call of p and q answers what it should, and answers what that is.
func answers(t *testing.T, what string, do call, p, q api.Player, should told) told {
	t.Helper()
	got := do(p, q)
	if show(got) != show(should) {
		t.Errorf("%s of %s and %s:\n%s, not\n%s", what, show(p), show(q), show(got), show(should))
	}
	return got
}

// becomes complains unless a call that tells no error makes of p and q what the other texts tell.
func becomes(t *testing.T, what string, do call, p, q, one, other string, done bool) {
	t.Helper()
	answers(t, what, do, player(t, p), player(t, q), told{player(t, one), player(t, other), done, api.OK})
}

// refuses complains unless a call of p and q tells that error, and leaves them as they are.
func refuses(t *testing.T, what string, do call, p, q string, err api.Errno) {
	t.Helper()
	answers(t, what, do, player(t, p), player(t, q), told{player(t, p), player(t, q), false, err})
}
