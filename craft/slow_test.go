package craft_test

import (
	"math"
	"math/rand"
	"slices"
	"testing"

	"homestead/api"
	"homestead/bag"
	"homestead/craft"
	"homestead/items"
)

// recipeTexts are the recipes as the table of layer 8 has them: what each is of, what it makes.
func recipeTexts() [][2]string {
	return [][2]string{
		{"1 wood", "4 plank"},
		{"2 plank", "4 stick"},
		{"8 plank", "1 chest"},
		{"1 stick, 1 ore", "4 torch"},
		{"1 ore, 1 wood", "1 ingot"},
		{"2 stick, 3 ingot", "1 pick"},
		{"4 stone, 1 dirt", "1 ore"},
	}
}

// recipe is one of these, and whether there is one of that number.
func recipe(t *testing.T, n int) (of []api.Slot, made api.Slot, there bool) {
	t.Helper()
	texts := recipeTexts()
	if n < 0 || n >= len(texts) {
		return nil, api.Slot{}, false
	}
	return slots(t, texts[n][0]), slots(t, texts[n][1])[0], true
}

// isRight tells by the words of layer 9 whether s may be in a right bag.
func isRight(s api.Slot) bool {
	return s == api.Slot{} || s.N >= 1 && s.N <= items.Stack(s.Item)
}

// spendOne takes one of i out of the last slot that has it, and tells whether there was one.
func spendOne(l []api.Slot, i api.Item) bool {
	for at, s := range slices.Backward(l) {
		if s.Item == i {
			l[at].N--
			if l[at].N == 0 {
				l[at].Item = api.Air
			}
			return true
		}
	}
	return false
}

// putOne puts one of i where it goes, and tells whether there was room for it.
func putOne(l []api.Slot, i api.Item) bool {
	for _, has := range []api.Item{i, api.Air} {
		for at, s := range l {
			if s.Item == has && s.N < items.Stack(i) {
				l[at] = api.Slot{Item: i, N: s.N + 1}
				return true
			}
		}
	}
	return false
}

// slowMake follows the chapter's words, and moves one of an item at a time.
func slowMake(t *testing.T, l []api.Slot, n int) ([]api.Slot, api.Errno) {
	t.Helper()
	for _, s := range l {
		if !isRight(s) {
			return l, api.ErrBag
		}
	}
	of, made, there := recipe(t, n)
	if !there {
		return l, api.ErrRecipe
	}
	out := slices.Clone(l)
	for _, s := range of {
		for range s.N {
			if !spendOne(out, s.Item) {
				return l, api.ErrWant
			}
		}
	}
	for range made.N {
		if !putOne(out, made.Item) {
			return l, api.ErrRoom
		}
	}
	return out, api.OK
}

// slowCan asks the slow one for each recipe.
func slowCan(t *testing.T, l []api.Slot) []int {
	t.Helper()
	var can []int
	for n := range recipeTexts() {
		if _, err := slowMake(t, l, n); err == api.OK {
			can = append(can, n)
		}
	}
	return can
}

// sameMake holds Make to the slow one, and to what follows (P10.3).
func sameMake(t *testing.T, l []api.Slot, n int) {
	t.Helper()
	out, err := craft.Make(l, n)
	if wanted, should := slowMake(t, l, n); !slices.Equal(out, wanted) || err != should {
		t.Errorf("Make(%q, %d): %q, error %d; not %q, error %d", show(l), n, show(out), err, show(wanted), should)
	}
	counts(t, l, out, n, err)
}

// counts complains unless the counts of out, made of l, differ by just what the recipe says, or not at all.
func counts(t *testing.T, l, out []api.Slot, n int, err api.Errno) {
	t.Helper()
	var more [api.Items + 2]int
	if err == api.OK {
		of, made, _ := recipe(t, n)
		more[made.Item] += made.N
		for _, s := range of {
			more[s.Item] -= s.N
		}
	}
	for i := range api.Item(len(more)) {
		if got, wanted := bag.Count(out, i), bag.Count(l, i)+more[i]; got != wanted {
			t.Errorf("Make(%q, %d): %q, error %d: %d of %s, not %d", show(l), n, show(out), err, got, nameOf(i), wanted)
		}
	}
	if bag.Right(out, len(l)) != bag.Right(l, len(l)) {
		t.Errorf("Make(%q, %d): %q, error %d", show(l), n, show(out), err)
	}
}

// sameCan holds Can to the slow one.
func sameCan(t *testing.T, l []api.Slot) {
	t.Helper()
	if got, wanted := craft.Can(l), slowCan(t, l); !slices.Equal(got, wanted) {
		t.Errorf("Can(%q): %v, not %v", show(l), got, wanted)
	}
}

// slotsAbout are slots about the ends of what a recipe asks for, and some that are full, empty or wrong.
func slotsAbout(t *testing.T, n int) []api.Slot {
	t.Helper()
	of, made, _ := recipe(t, n)
	some := []api.Slot{{}, {Item: api.Leaf, N: 16}, {Item: 13, N: 1}}
	add := func(i api.Item, counts ...int) {
		for _, count := range counts {
			if s := (api.Slot{Item: i, N: count}); count > 0 && !slices.Contains(some, s) {
				some = append(some, s)
			}
		}
	}
	for _, s := range of {
		add(s.Item, s.N-1, s.N, s.N+1, items.Stack(s.Item))
	}
	stack := items.Stack(made.Item)
	add(made.Item, stack-made.N, stack-made.N+1, stack, stack+1)
	return some
}

// bagsOf are all bags of so many of those slots.
func bagsOf(size int, some []api.Slot) [][]api.Slot {
	bags := [][]api.Slot{nil}
	for range size {
		var longer [][]api.Slot
		for _, l := range bags {
			for _, s := range some {
				longer = append(longer, append(slices.Clone(l), s))
			}
		}
		bags = longer
	}
	return bags
}

// P10.1 to P10.3: for each recipe all bags of up to three slots.
func TestSmallBags(t *testing.T) {
	for n := range recipeTexts() {
		some := slotsAbout(t, n)
		for size := range 4 {
			for _, l := range bagsOf(size, some) {
				sameMake(t, l, n)
				sameCan(t, l)
			}
		}
	}
}

// script has slots and numbers read off its bytes; behind its end there are noughts.
type script struct{ rest string }

func (s *script) next() int {
	if s.rest == "" {
		return 0
	}
	x := s.rest[0]
	s.rest = s.rest[1:]
	return int(x)
}

// slot is a right one, mostly.
func (s *script) slot() api.Slot {
	x := s.next()
	i := api.Item(x % (api.Items + 1))
	if x == 255 {
		return api.Slot{Item: api.Item(s.next()), N: s.next() - 100}
	}
	if i == api.Air {
		return api.Slot{}
	}
	return api.Slot{Item: i, N: 1 + s.next()%items.Stack(i)}
}

// bag is one of few slots, mostly.
func (s *script) bag() []api.Slot {
	size := s.next() % (api.BagSlots + 3)
	if size == 0 {
		size = s.next() % 30
	}
	var l []api.Slot
	for range size {
		l = append(l, s.slot())
	}
	return l
}

// number is that of a recipe, mostly.
func (s *script) number() int {
	switch x := s.next(); x {
	case 255:
		return math.MinInt
	case 254:
		return -1
	case 253:
		return len(recipeTexts())
	default:
		return x % len(recipeTexts())
	}
}

// follow makes what a script says, one behind the other, with the slow ones beside it.
func follow(t *testing.T, text string) {
	t.Helper()
	s := &script{rest: text}
	l := s.bag()
	for s.rest != "" {
		sameCan(t, l)
		if s.next()%8 == 0 {
			l = s.bag()
		}
		n := s.number()
		sameMake(t, l, n)
		l, _ = craft.Make(l, n)
	}
}

// P10.1 to P10.3: many bags, and what is made of them, one behind the other.
func TestScripts(t *testing.T) {
	random := rand.New(rand.NewSource(10))
	for range 2000 {
		text := make([]byte, 200)
		random.Read(text)
		follow(t, string(text))
	}
}

func FuzzCraft(f *testing.F) {
	f.Add("\x04\x03\x05\x00\x00\x00\x01\x00\x01\x01")
	f.Add("\x03\x02\x0f\x01\x0f\x00\x01\x06\x01\x06\x01\x06")
	f.Fuzz(func(t *testing.T, text string) {
		follow(t, text[:min(len(text), 1000)])
	})
}
