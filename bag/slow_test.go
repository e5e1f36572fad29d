package bag_test

import (
	"math"
	"math/rand"
	"slices"
	"testing"

	"homestead/api"
	"homestead/bag"
	"homestead/items"
)

// The slow calls follow the chapter's words one by one, and move one of an item at a time.

func slowRight(l []api.Slot) bool {
	for _, s := range l {
		if !isRight(s) {
			return false
		}
	}
	return true
}

func slowCount(l []api.Slot, i api.Item) int {
	count := 0
	for _, s := range l {
		if i != api.Air && s.Item == i && s.N > 0 {
			count += s.N
		}
	}
	return count
}

// slowPlace is where one more of i goes; -1, if there is no room.
func slowPlace(l []api.Slot, i api.Item) int {
	for at, s := range l {
		if s.Item == i && s.N < items.Stack(i) {
			return at
		}
	}
	for at, s := range l {
		if s.N == 0 {
			return at
		}
	}
	return -1
}

func slowPut(l []api.Slot, i api.Item, n int) ([]api.Slot, int) {
	out := slices.Clone(l)
	if n < 1 {
		return out, 0
	}
	for slowRight(l) && items.Stack(i) > 0 && n > 0 {
		at := slowPlace(out, i)
		if at < 0 {
			break
		}
		out[at] = api.Slot{Item: i, N: out[at].N + 1}
		n--
	}
	return out, n
}

// slowLess takes one out of a slot.
func slowLess(l []api.Slot, at int) {
	l[at].N--
	if l[at].N == 0 {
		l[at].Item = api.Air
	}
}

func slowTake(l []api.Slot, at, n int) ([]api.Slot, api.Slot, api.Errno) {
	out := slices.Clone(l)
	switch {
	case !slowRight(l), at < 0, at >= len(l):
		return out, api.Slot{}, api.ErrBag
	case n < 1:
		return out, api.Slot{}, api.ErrCount
	case l[at].N < n:
		return out, api.Slot{}, api.ErrWant
	}
	for range n {
		slowLess(out, at)
	}
	return out, api.Slot{Item: l[at].Item, N: n}, api.OK
}

func slowSpend(l []api.Slot, i api.Item, n int) ([]api.Slot, api.Errno) {
	out := slices.Clone(l)
	switch {
	case !slowRight(l):
		return out, api.ErrBag
	case n < 1:
		return out, api.ErrCount
	case slowCount(l, i) < n:
		return out, api.ErrWant
	}
	for range n {
		last := -1
		for at, s := range out {
			if s.Item == i {
				last = at
			}
		}
		slowLess(out, last)
	}
	return out, api.OK
}

func slowAll(l, more []api.Slot) ([]api.Slot, api.Errno) {
	if !slowRight(l) || !slowRight(more) {
		return l, api.ErrBag
	}
	out := l
	for _, s := range more {
		left := 0
		if out, left = slowPut(out, s.Item, s.N); left > 0 {
			return l, api.ErrRoom
		}
	}
	return out, api.OK
}

// keeps complains unless out, made of l, is as right as that, and has so many more of i, and of all else as many.
func keeps(t *testing.T, what string, l, out []api.Slot, i api.Item, more int) {
	t.Helper()
	if len(out) != len(l) || bag.Right(out, len(l)) != bag.Right(l, len(l)) {
		t.Errorf("%s: %q became %q", what, show(l), show(out))
	}
	for other := range api.Item(api.Items + 3) {
		wanted := bag.Count(l, other)
		if other == i && i != api.Air {
			wanted += more
		}
		if got := bag.Count(out, other); got != wanted {
			t.Errorf("%s: %q became %q: %d of item %d, not %d", what, show(l), show(out), got, other, wanted)
		}
	}
}

// sameOfItem holds what is done with n of i to the slow calls, and to what follows (P9.5).
func sameOfItem(t *testing.T, l []api.Slot, i api.Item, n int) {
	t.Helper()
	out, left := bag.Put(l, i, n)
	if wanted, still := slowPut(l, i, n); !slices.Equal(out, wanted) || left != still {
		t.Errorf("Put(%q, %d, %d): %q, %d; not %q, %d", show(l), i, n, show(out), left, show(wanted), still)
	}
	keeps(t, "Put", l, out, i, max(n, 0)-left)
	out, err := bag.Spend(l, i, n)
	if wanted, should := slowSpend(l, i, n); !slices.Equal(out, wanted) || err != should {
		t.Errorf("Spend(%q, %d, %d): %q, error %d; not %q, error %d", show(l), i, n, show(out), err, show(wanted), should)
	}
	if err != api.OK {
		n = 0
	}
	keeps(t, "Spend", l, out, i, -n)
}

// sameTake holds Take to the slow one, and to what follows.
func sameTake(t *testing.T, l []api.Slot, at, n int) {
	t.Helper()
	out, taken, err := bag.Take(l, at, n)
	if wanted, should, slow := slowTake(l, at, n); !slices.Equal(out, wanted) || taken != should || err != slow {
		t.Errorf("Take(%q, %d, %d): %q, %v, error %d; not %q, %v, error %d", show(l), at, n, show(out), taken, err, show(wanted), should, slow)
	}
	keeps(t, "Take", l, out, taken.Item, -taken.N)
}

// sameAll holds All and Fits to the slow ones, and to what follows.
func sameAll(t *testing.T, l, more []api.Slot) {
	t.Helper()
	out, err := bag.All(l, more)
	if wanted, should := slowAll(l, more); !slices.Equal(out, wanted) || err != should {
		t.Errorf("All(%q; %q): %q, error %d; not %q, error %d", show(l), show(more), show(out), err, show(wanted), should)
	}
	if fits := bag.Fits(l, more); fits != (err == api.OK) {
		t.Errorf("Fits(%q; %q): %t, but error %d", show(l), show(more), fits, err)
	}
	if err != api.OK {
		keeps(t, "All", l, out, api.Air, 0)
		return
	}
	for i := api.Dirt; i <= api.Items; i++ {
		if got, wanted := bag.Count(out, i), bag.Count(l, i)+bag.Count(more, i); got != wanted {
			t.Errorf("All(%q; %q): %d of item %d, not %d", show(l), show(more), got, i, wanted)
		}
	}
}

// someSlots are empty, filled and full ones, and some that are wrong.
func someSlots() []api.Slot {
	return []api.Slot{
		{}, {Item: api.Dirt, N: 1}, {Item: api.Dirt, N: 15}, {Item: api.Dirt, N: 16}, {Item: api.Leaf, N: 9},
		{Item: api.Chest, N: 3}, {Item: api.Chest, N: 4}, {Item: api.Pick, N: 1},
		{Item: api.Air, N: 1}, {Item: api.Dirt, N: 17}, {Item: api.Chest, N: -1}, {Item: 13, N: 1},
	}
}

// bagsOf are all bags of so many of those slots.
func bagsOf(n int, some []api.Slot) [][]api.Slot {
	bags := [][]api.Slot{nil}
	for range n {
		var longer [][]api.Slot
		for _, l := range bags {
			for _, s := range some {
				longer = append(longer, append(slices.Clone(l), s))
			}
		}
		bags = longer
	}
	return bags
}

// someCounts are counts about the ends of slots, and some that may not be.
func someCounts() []int {
	return []int{math.MinInt, -1, 0, 1, 2, 3, 4, 5, 9, 15, 16, 17, 31, 32, 33, 48, 49, math.MaxInt}
}

// P9.2 to P9.5: all bags of up to three slots.
func TestSmallBags(t *testing.T) {
	for size := range 4 {
		for _, l := range bagsOf(size, someSlots()) {
			for _, n := range someCounts() {
				for _, i := range []api.Item{api.Air, api.Dirt, api.Wood, api.Leaf, api.Chest, api.Pick, 13} {
					sameOfItem(t, l, i, n)
				}
				for at := -1; at <= size; at++ {
					sameTake(t, l, at, n)
				}
			}
		}
	}
}

// P9.4 and P9.5: all pairs of bags of up to two slots.
func TestPairsOfSmallBags(t *testing.T) {
	var bags [][]api.Slot
	for size := range 3 {
		bags = append(bags, bagsOf(size, someSlots())...)
	}
	for _, l := range bags {
		for _, more := range bags {
			sameAll(t, l, more)
		}
	}
}

// script has bags, items and numbers read off its bytes; behind its end there are noughts.
type script struct{ rest string }

func (s *script) next() int {
	if s.rest == "" {
		return 0
	}
	x := s.rest[0]
	s.rest = s.rest[1:]
	return int(x)
}

// item is one of few, mostly; now and then any.
func (s *script) item() api.Item {
	if x := s.next(); x >= 240 {
		return api.Item(s.next())
	} else if few := []api.Item{api.Dirt, api.Chest, api.Berry, api.Pick}; x < 200 {
		return few[x%len(few)]
	} else {
		return api.Item(x % (api.Items + 2))
	}
}

// slot is a right one, mostly.
func (s *script) slot() api.Slot {
	x := s.next()
	if x < 80 {
		return api.Slot{}
	}
	i := s.item()
	if x >= 253 {
		return api.Slot{Item: i, N: s.next() - 100}
	}
	if items.Stack(i) == 0 {
		return api.Slot{}
	}
	return api.Slot{Item: i, N: 1 + s.next()%items.Stack(i)}
}

// bag is one of few slots, mostly.
func (s *script) bag() []api.Slot {
	size := s.next() % (api.BagSlots + 1)
	if s.next() == 255 {
		size = 70
	}
	l := make([]api.Slot, size)
	for at := range l {
		l[at] = s.slot()
	}
	return l
}

// follow does a script's calls one behind the other, with what came of the one ahead, and with the slow ones beside it.
func follow(t *testing.T, text string) {
	t.Helper()
	s := &script{rest: text}
	l := s.bag()
	for len(s.rest) > 0 {
		switch call := s.next() % 6; call {
		case 0, 1:
			i, n := s.item(), s.next()-2
			sameOfItem(t, l, i, n)
			if call == 0 {
				l, _ = bag.Put(l, i, n)
			} else {
				l, _ = bag.Spend(l, i, n)
			}
		case 2:
			at, n := s.next()%(len(l)+2)-1, s.next()%20-1
			sameTake(t, l, at, n)
			l, _, _ = bag.Take(l, at, n)
		case 3, 4:
			more := s.bag()
			sameAll(t, l, more)
			l, _ = bag.All(l, more)
		default:
			l = s.bag()
		}
	}
}

// P9.2 to P9.5: many calls, one behind the other.
func TestScripts(t *testing.T) {
	random := rand.New(rand.NewSource(9))
	for range 2000 {
		text := make([]byte, 300)
		random.Read(text)
		follow(t, string(text))
	}
}

func FuzzBag(f *testing.F) {
	f.Add("\x02\x00\x00\x00\x00\x00\x16\x00\x00\x0f")
	f.Add("\x08\x00\x60\x00\x0f\x60\x01\x03\x03\x04\x00\x90\x02\x09")
	f.Fuzz(func(t *testing.T, text string) {
		follow(t, text[:min(len(text), 1000)])
	})
}
