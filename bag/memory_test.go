package bag_test

import (
	"slices"
	"sync"
	"testing"

	"homestead/api"
	"homestead/bag"
)

// handed is a bag with spare room behind it, and all of the memory that both are in.
type handed struct {
	l, whole []api.Slot
}

// handIn lays l into memory that has something ahead of it, and behind it.
func handIn(l []api.Slot) handed {
	other := api.Slot{Item: api.Stone, N: 7}
	whole := slices.Concat([]api.Slot{other}, l, []api.Slot{other, other})
	return handed{l: whole[1 : 1+len(l)], whole: whole}
}

// spoil writes over all of l, and its spare room.
func spoil(l []api.Slot) {
	l = l[:cap(l)]
	for at := range l {
		l[at] = api.Slot{Item: api.Pick, N: -1}
	}
}

// calls are those that answer a bag: each one done, and each of its errors told.
func calls() map[string]func(l []api.Slot) []api.Slot {
	put := func(i api.Item, n int) func(l []api.Slot) []api.Slot {
		return func(l []api.Slot) []api.Slot { out, _ := bag.Put(l, i, n); return out }
	}
	take := func(at, n int) func(l []api.Slot) []api.Slot {
		return func(l []api.Slot) []api.Slot { out, _, _ := bag.Take(l, at, n); return out }
	}
	spend := func(i api.Item, n int) func(l []api.Slot) []api.Slot {
		return func(l []api.Slot) []api.Slot { out, _ := bag.Spend(l, i, n); return out }
	}
	all := func(more ...api.Slot) func(l []api.Slot) []api.Slot {
		return func(l []api.Slot) []api.Slot { out, _ := bag.All(l, more); return out }
	}
	return map[string]func(l []api.Slot) []api.Slot{
		"Put": put(api.Dirt, 20), "Put, too much": put(api.Dirt, 99), "Put of none": put(api.Dirt, 0), "Put of Air": put(api.Air, 3),
		"Take": take(1, 1), "Take all": take(1, 5), "Take, ErrBag": take(9, 1), "Take, ErrCount": take(1, 0), "Take, ErrWant": take(1, 9),
		"Spend": spend(api.Dirt, 3), "Spend, ErrCount": spend(api.Dirt, 0), "Spend, ErrWant": spend(api.Dirt, 99),
		"All":         all(api.Slot{Item: api.Dirt, N: 9}, api.Slot{Item: api.Wood, N: 9}),
		"All of none": all(), "All, ErrBag": all(api.Slot{Item: api.Dirt, N: 17}),
		"All, ErrRoom": all(api.Slot{Item: api.Dirt, N: 9}, api.Slot{Item: api.Wood, N: 9}, api.Slot{Item: api.Leaf, N: 9}),
		"All of itself": func(l []api.Slot) []api.Slot {
			out, _ := bag.All(l, l)
			return out
		},
	}
}

// bags are some that those calls are handed; the last two are wrong.
func bags(t *testing.T) [][]api.Slot {
	t.Helper()
	return [][]api.Slot{
		slots(t, "4 dirt, 5 dirt, -, -"), slots(t, "16 dirt, 5 wood, -"), slots(t, "16 dirt, 1 pick"), slots(t, "-, -, -, -"), {},
		slots(t, "17 dirt, 5 dirt"), slots(t, "4 dirt, 1 air"),
	}
}

// R3: what is handed in stays as it is, its spare room too; what is answered shares no memory with it, nor with another answer.
func TestAnswersAreNew(t *testing.T) {
	for what, call := range calls() {
		for _, l := range bags(t) {
			in := handIn(l)
			as := slices.Clone(in.whole)
			first, second := call(in.l), call(in.l)
			wanted := slices.Clone(second)
			spoil(first)
			if !slices.Equal(in.whole, as) {
				t.Errorf("%s of %q: what was handed in is %q", what, show(l), show(in.whole))
			}
			if !slices.Equal(second, wanted) {
				t.Errorf("%s of %q: another answer is %q", what, show(l), show(second))
			}
			spoil(in.whole)
			if !slices.Equal(second, wanted) {
				t.Errorf("%s of %q: the answer is %q, not %q", what, show(l), show(second), show(wanted))
			}
		}
	}
}

// R3: what All and Fits are to put stays as it is, too, and is not what they answer.
func TestMoreStays(t *testing.T) {
	for _, l := range bags(t) {
		for _, more := range bags(t) {
			in := handIn(more)
			as := slices.Clone(in.whole)
			out, _ := bag.All(l, in.l)
			wanted := slices.Clone(out)
			bag.Fits(l, in.l)
			if !slices.Equal(in.whole, as) {
				t.Errorf("All(%q; %q): that is %q", show(l), show(more), show(in.whole))
			}
			spoil(in.whole)
			if !slices.Equal(out, wanted) {
				t.Errorf("All(%q; %q): the answer is %q, not %q", show(l), show(more), show(out), show(wanted))
			}
		}
	}
}

// R3: what is only asked changes nothing.
func TestAskingChangesNothing(t *testing.T) {
	for _, l := range bags(t) {
		in := handIn(l)
		as := slices.Clone(in.whole)
		bag.Right(in.l, len(in.l))
		bag.Count(in.l, api.Dirt)
		bag.Fits(in.l, []api.Slot{{Item: api.Dirt, N: 1}})
		if !slices.Equal(in.whole, as) {
			t.Errorf("%q became %q", show(as), show(in.whole))
		}
	}
}

// R3: slots that New answers are new each time.
func TestNewIsNew(t *testing.T) {
	first, second := bag.New(8), bag.New(8)
	spoil(first)
	if empty := make([]api.Slot, 8); !slices.Equal(second, empty) || !slices.Equal(bag.New(8), empty) {
		t.Errorf("New: %q", show(second))
	}
}

// R4: many may ask of one bag at once, and are told the same.
func TestManyAsk(t *testing.T) {
	l := slots(t, "4 dirt, 5 dirt, -, -")
	var asking sync.WaitGroup
	for range 8 {
		asking.Go(func() {
			for range 100 {
				for _, call := range calls() {
					spoil(call(l))
				}
			}
		})
	}
	asking.Wait()
	has(t, "the bag", l, "4 dirt, 5 dirt, -, -")
}
