package bag_test

import (
	"math"
	"slices"
	"strconv"
	"strings"
	"testing"

	"homestead/api"
	"homestead/bag"
	"homestead/items"
)

// names are the items by their names; some that are none have a name too.
var names = map[string]api.Item{
	"air": api.Air, "dirt": api.Dirt, "stone": api.Stone, "wood": api.Wood, "leaf": api.Leaf,
	"plank": api.Plank, "stick": api.Stick, "ore": api.Ore, "ingot": api.Ingot, "chest": api.Chest,
	"torch": api.Torch, "berry": api.Berry, "pick": api.Pick, "thirteen": 13, "last": 255,
}

// slots are those that text tells: "16 dirt, -, 1 pick"; a dash is an empty one.
func slots(t *testing.T, text string) []api.Slot {
	t.Helper()
	var l []api.Slot
	if text == "" {
		return l
	}
	for part := range strings.SplitSeq(text, ", ") {
		var s api.Slot
		if part != "-" {
			count, name, _ := strings.Cut(part, " ")
			n, err := strconv.Atoi(count)
			item, known := names[name]
			if err != nil || !known {
				t.Fatalf("slot %q", part)
			}
			s = api.Slot{Item: item, N: n}
		}
		l = append(l, s)
	}
	return l
}

// show is l as a text, as slots reads it.
func show(l []api.Slot) string {
	var parts []string
	for _, s := range l {
		part := strconv.Itoa(s.N) + " item" + strconv.Itoa(int(s.Item))
		for name, item := range names {
			if s.Item == item {
				part = strconv.Itoa(s.N) + " " + name
			}
		}
		if s == (api.Slot{}) {
			part = "-"
		}
		parts = append(parts, part)
	}
	return strings.Join(parts, ", ")
}

// has complains unless l is what text tells.
func has(t *testing.T, what string, l []api.Slot, text string) {
	t.Helper()
	if !slices.Equal(l, slots(t, text)) {
		t.Errorf("%s: %q, not %q", what, show(l), text)
	}
}

// want complains unless an error is the one that was wanted.
func want(t *testing.T, what string, got, wanted api.Errno) {
	t.Helper()
	if got != wanted {
		t.Errorf("%s: error %d, not %d", what, got, wanted)
	}
}

// The chapter's examples.
func TestExamples(t *testing.T) {
	l, left := bag.Put(bag.New(2), api.Dirt, 20)
	has(t, "Put(20)", l, "16 dirt, 4 dirt")
	if left != 0 {
		t.Errorf("Put(20): %d left", left)
	}
	l, left = bag.Put(l, api.Dirt, 13)
	has(t, "Put(13)", l, "16 dirt, 16 dirt")
	if left != 1 {
		t.Errorf("Put(13): %d left", left)
	}
	l, taken, err := bag.Take(l, 1, 4)
	has(t, "Take", l, "16 dirt, 12 dirt")
	if taken != (api.Slot{Item: api.Dirt, N: 4}) || err != api.OK {
		t.Errorf("Take: %v, error %d", taken, err)
	}
	l, err = bag.Spend(slots(t, "16 dirt, -"), api.Dirt, 17)
	has(t, "Spend", l, "16 dirt, -")
	want(t, "Spend", err, api.ErrWant)
}

// P9.1: how many slots New answers; all of them are empty.
func TestNew(t *testing.T) {
	for _, c := range []struct{ n, slots int }{
		{math.MinInt, 0}, {-64, 0}, {-1, 0}, {0, 0}, {1, 1}, {2, 2}, {api.ChestSlots, 6}, {api.BagSlots, 8}, {32, 32},
		{63, 63}, {64, 64}, {65, 64}, {100, 64}, {128, 64}, {1 << 32, 64}, {math.MaxInt, 64},
	} {
		l := bag.New(c.n)
		if !slices.Equal(l, make([]api.Slot, c.slots)) {
			t.Errorf("New(%d): %q", c.n, show(l))
		}
		if !bag.Right(l, c.slots) {
			t.Errorf("New(%d) is no right bag", c.n)
		}
	}
}

// isRight tells by the chapter's words whether s may be in a right bag.
func isRight(s api.Slot) bool {
	for n := 1; n <= items.Stack(s.Item); n++ {
		if s.N == n {
			return true
		}
	}
	return s.Item == api.Air && s.N == 0
}

// P9.1: which slots are right: of each item, and of all that is none.
func TestRightSlots(t *testing.T) {
	for i := range math.MaxUint8 + 1 {
		for _, n := range []int{math.MinInt, math.MinInt32, -17, -16, -4, -1, 0, 1, 2, 3, 4, 5, 8, 15, 16, 17, 64, 255, 256, 257, 1 << 32, 1<<32 + 1, math.MaxInt} {
			s := api.Slot{Item: api.Item(i), N: n}
			if got := bag.Right([]api.Slot{s}, 1); got != isRight(s) {
				t.Errorf("Right(%q, 1): %t", show([]api.Slot{s}), got)
			}
		}
	}
}

// P9.1: a bag is right if each slot is, and it has so many.
func TestRight(t *testing.T) {
	for _, c := range []struct {
		l     string
		n     int
		right bool
	}{
		{"", 0, true}, {"", 1, false}, {"", -1, false}, {"", math.MinInt, false}, {"", math.MaxInt, false},
		{"-", 1, true}, {"-", 0, false}, {"-", 2, false}, {"-", -1, false},
		{"16 dirt, -, 4 chest, 1 pick", 4, true},
		{"16 dirt, -, 4 chest, 1 pick", 3, false},
		{"16 dirt, -, 4 chest, 1 pick", 5, false},
		{"-, -, 1 dirt, 1 dirt", 4, true},
		{"17 dirt, -, 4 chest, 1 pick", 4, false},
		{"16 dirt, 1 air, 4 chest, 1 pick", 4, false},
		{"16 dirt, -, 5 chest, 1 pick", 4, false},
		{"16 dirt, -, 4 chest, 2 pick", 4, false},
		{"16 dirt, -, 4 chest, 0 pick", 4, false},
		{"16 dirt, -1 air, 4 chest, 1 pick", 4, false},
		{"-1 dirt, -, 4 chest, 1 pick", 4, false},
		{"1 thirteen, -", 2, false}, {"-, 0 thirteen", 2, false}, {"-, 0 last", 2, false}, {"1 last, -", 2, false},
	} {
		if got := bag.Right(slots(t, c.l), c.n); got != c.right {
			t.Errorf("Right(%q, %d): %t", c.l, c.n, got)
		}
	}
}

// P9.1: a bag may have more slots than New answers, or a player has.
func TestRightOfMany(t *testing.T) {
	l := make([]api.Slot, 1000)
	if !bag.Right(l, 1000) || bag.Right(l, 64) {
		t.Error("1000 empty slots")
	}
	l[999] = api.Slot{Item: api.Dirt}
	if bag.Right(l, 1000) {
		t.Error("the last of 1000 slots is wrong")
	}
}

// P9.1: how many of an item there are, in a bag that is not right, too.
func TestCount(t *testing.T) {
	for _, c := range []struct {
		l     string
		i     string
		count int
	}{
		{"", "dirt", 0}, {"", "air", 0}, {"-, -", "air", 0}, {"-, -", "dirt", 0},
		{"16 dirt, -, 3 dirt, 5 wood, 1 dirt", "dirt", 20},
		{"16 dirt, -, 3 dirt, 5 wood, 1 dirt", "wood", 5},
		{"16 dirt, -, 3 dirt, 5 wood, 1 dirt", "stone", 0},
		{"16 dirt, -, 3 dirt, 5 wood, 1 dirt", "air", 0},
		{"1 pick, 1 pick", "pick", 2},
		{"5 air, 7 air", "air", 0}, {"5 air, 7 air", "dirt", 0},
		{"-5 dirt, 7 dirt", "dirt", 7}, {"7 dirt, -7 dirt, -1 dirt", "dirt", 7}, {"-1 dirt", "dirt", 0}, {"0 dirt", "dirt", 0},
		{"40 dirt, 2 dirt", "dirt", 42}, {"9 chest", "chest", 9},
		{"5 thirteen, 2 thirteen", "thirteen", 7}, {"3 last, 1 dirt", "last", 3}, {"3 dirt", "last", 0}, {"3 dirt", "thirteen", 0},
	} {
		if got := bag.Count(slots(t, c.l), names[c.i]); got != c.count {
			t.Errorf("Count(%q, %s): %d, not %d", c.l, c.i, got, c.count)
		}
	}
	if got := bag.Count([]api.Slot{{Item: api.Dirt, N: math.MinInt}, {Item: api.Dirt, N: math.MaxInt32}}, api.Dirt); got != math.MaxInt32 {
		t.Errorf("Count of the least and a great number: %d", got)
	}
}

// P9.2: first the slots that have the item, from the first one on, then empty ones.
func TestPut(t *testing.T) {
	for _, c := range []struct {
		l    string
		i    string
		n    int
		out  string
		left int
	}{
		{"-, -, -", "dirt", 1, "1 dirt, -, -", 0},
		{"-, -, -", "dirt", 16, "16 dirt, -, -", 0},
		{"-, -, -", "dirt", 17, "16 dirt, 1 dirt, -", 0},
		{"-, -, -", "dirt", 48, "16 dirt, 16 dirt, 16 dirt", 0},
		{"-, -, -", "dirt", 49, "16 dirt, 16 dirt, 16 dirt", 1},
		{"-, -, -", "dirt", math.MaxInt, "16 dirt, 16 dirt, 16 dirt", math.MaxInt - 48},
		{"-, -, -", "chest", 9, "4 chest, 4 chest, 1 chest", 0},
		{"-, -, -", "pick", 2, "1 pick, 1 pick, -", 0},
		{"-, -, -", "pick", 4, "1 pick, 1 pick, 1 pick", 1},
		{"-, 3 dirt, -", "dirt", 5, "-, 8 dirt, -", 0},
		{"-, 3 dirt, -", "dirt", 13, "-, 16 dirt, -", 0},
		{"-, 3 dirt, -", "dirt", 14, "1 dirt, 16 dirt, -", 0},
		{"-, 3 dirt, -", "dirt", 30, "16 dirt, 16 dirt, 1 dirt", 0},
		{"-, 15 dirt, 2 wood, 15 dirt, -", "dirt", 1, "-, 16 dirt, 2 wood, 15 dirt, -", 0},
		{"-, 15 dirt, 2 wood, 15 dirt, -", "dirt", 2, "-, 16 dirt, 2 wood, 16 dirt, -", 0},
		{"-, 15 dirt, 2 wood, 15 dirt, -", "dirt", 3, "1 dirt, 16 dirt, 2 wood, 16 dirt, -", 0},
		{"-, 15 dirt, 2 wood, 15 dirt, -", "wood", 20, "6 wood, 15 dirt, 16 wood, 15 dirt, -", 0},
		{"-, 15 dirt, 2 wood, 15 dirt, -", "leaf", 33, "16 leaf, 15 dirt, 2 wood, 15 dirt, 16 leaf", 1},
		{"16 dirt, 16 wood", "leaf", 5, "16 dirt, 16 wood", 5},
		{"16 dirt, 16 wood", "dirt", 5, "16 dirt, 16 wood", 5},
		{"", "dirt", 5, "", 5},
	} {
		l, left := bag.Put(slots(t, c.l), names[c.i], c.n)
		if has(t, "Put("+c.l+", "+c.i+", "+strconv.Itoa(c.n)+")", l, c.out); left != c.left {
			t.Errorf("Put(%q, %s, %d): %d left, not %d", c.l, c.i, c.n, left, c.left)
		}
	}
}

// P9.2: of each item a slot holds as many as its table says.
func TestPutStacks(t *testing.T) {
	for i := api.Dirt; i <= api.Items; i++ {
		stack := items.Stack(i)
		l, left := bag.Put(bag.New(2), i, 2*stack+1)
		if full := (api.Slot{Item: i, N: stack}); !slices.Equal(l, []api.Slot{full, full}) || left != 1 {
			t.Errorf("Put of item %d: %q, %d left", i, show(l), left)
		}
	}
}

// P9.2: what is not put: l and n; of n below 1 l and 0, whatever else is wrong.
func TestPutNothing(t *testing.T) {
	for _, c := range []struct{ l, i string }{
		{"17 dirt, -", "dirt"}, {"17 dirt, -", "wood"}, {"-, 0 dirt", "dirt"}, {"-, -1 dirt", "dirt"}, {"-, 1 air", "dirt"},
		{"-, 1 thirteen", "dirt"}, {"5 chest, -", "dirt"}, {"-, 2 pick", "pick"}, {"-, 5 last", "last"},
		{"-, -", "air"}, {"-, -", "thirteen"}, {"-, -", "last"}, {"3 dirt, -", "air"}, {"", "air"}, {"2 air, -", "air"},
	} {
		for _, n := range []int{1, 2, 16, 17, 1 << 32, math.MaxInt} {
			l, left := bag.Put(slots(t, c.l), names[c.i], n)
			if has(t, "Put", l, c.l); left != n {
				t.Errorf("Put(%q, %s, %d): %d left", c.l, c.i, n, left)
			}
		}
		for _, n := range []int{0, -1, -16, math.MinInt32, math.MinInt} {
			l, left := bag.Put(slots(t, c.l), names[c.i], n)
			if has(t, "Put", l, c.l); left != 0 {
				t.Errorf("Put(%q, %s, %d): %d left", c.l, c.i, n, left)
			}
		}
	}
	for _, n := range []int{0, -1, -16, math.MinInt32, math.MinInt} {
		l, left := bag.Put(slots(t, "3 dirt, -"), api.Dirt, n)
		if has(t, "Put", l, "3 dirt, -"); left != 0 {
			t.Errorf("Put of %d: %d left", n, left)
		}
	}
}

// P9.3: some of a slot is taken, or all of it: then it is empty.
func TestTake(t *testing.T) {
	const l = "16 dirt, -, 3 chest, 16 dirt, 1 pick"
	for _, c := range []struct {
		at, n      int
		out, taken string
	}{
		{0, 1, "15 dirt, -, 3 chest, 16 dirt, 1 pick", "1 dirt"},
		{0, 15, "1 dirt, -, 3 chest, 16 dirt, 1 pick", "15 dirt"},
		{0, 16, "-, -, 3 chest, 16 dirt, 1 pick", "16 dirt"},
		{2, 2, "16 dirt, -, 1 chest, 16 dirt, 1 pick", "2 chest"},
		{2, 3, "16 dirt, -, -, 16 dirt, 1 pick", "3 chest"},
		{3, 7, "16 dirt, -, 3 chest, 9 dirt, 1 pick", "7 dirt"},
		{4, 1, "16 dirt, -, 3 chest, 16 dirt, -", "1 pick"},
	} {
		out, taken, err := bag.Take(slots(t, l), c.at, c.n)
		has(t, "Take: bag", out, c.out)
		has(t, "Take: taken", []api.Slot{taken}, c.taken)
		want(t, "Take", err, api.OK)
	}
}

// P9.3: which error Take tells first; beside it stands l, and nothing is taken.
func TestTakeErrors(t *testing.T) {
	for _, c := range []struct {
		l     string
		at, n int
		err   api.Errno
	}{
		{"", 0, 1, api.ErrBag}, {"", 0, 0, api.ErrBag}, {"", -1, 1, api.ErrBag},
		{"3 dirt, -", -1, 1, api.ErrBag}, {"3 dirt, -", 2, 1, api.ErrBag}, {"3 dirt, -", 3, 1, api.ErrBag},
		{"3 dirt, -", math.MinInt, 1, api.ErrBag}, {"3 dirt, -", math.MaxInt, 1, api.ErrBag},
		{"3 dirt, -", 1 << 32, 1, api.ErrBag}, {"3 dirt, -", -1 << 32, 1, api.ErrBag},
		{"3 dirt, -", -1, 0, api.ErrBag}, {"3 dirt, -", 2, 0, api.ErrBag}, {"3 dirt, -", 2, 99, api.ErrBag},
		{"3 dirt, 0 dirt", 0, 1, api.ErrBag}, {"3 dirt, 17 dirt", 0, 0, api.ErrBag}, {"3 dirt, 17 dirt", 1, 99, api.ErrBag},
		{"3 dirt, 1 air", 0, 1, api.ErrBag}, {"3 dirt, 1 thirteen", 1, 1, api.ErrBag}, {"-1 dirt, -", 0, 1, api.ErrBag},
		{"3 dirt, -", 0, 0, api.ErrCount}, {"3 dirt, -", 0, -1, api.ErrCount}, {"3 dirt, -", 0, math.MinInt, api.ErrCount},
		{"3 dirt, -", 1, 0, api.ErrCount}, {"3 dirt, -", 1, -1, api.ErrCount},
		{"3 dirt, -", 0, 4, api.ErrWant}, {"3 dirt, -", 0, math.MaxInt, api.ErrWant}, {"3 dirt, -", 0, 1<<32 + 1, api.ErrWant},
		{"3 dirt, -", 1, 1, api.ErrWant}, {"3 dirt, 9 dirt", 0, 4, api.ErrWant},
	} {
		out, taken, err := bag.Take(slots(t, c.l), c.at, c.n)
		what := "Take(" + c.l + ", " + strconv.Itoa(c.at) + ", " + strconv.Itoa(c.n) + ")"
		has(t, what, out, c.l)
		has(t, what, []api.Slot{taken}, "-")
		want(t, what, err, c.err)
	}
}

// P9.3: what is spent goes from the last slot that has it on, towards the first.
func TestSpend(t *testing.T) {
	const l = "16 dirt, -, 3 dirt, 2 wood, 5 dirt, 1 pick"
	for _, c := range []struct {
		i   string
		n   int
		out string
	}{
		{"dirt", 1, "16 dirt, -, 3 dirt, 2 wood, 4 dirt, 1 pick"},
		{"dirt", 5, "16 dirt, -, 3 dirt, 2 wood, -, 1 pick"},
		{"dirt", 6, "16 dirt, -, 2 dirt, 2 wood, -, 1 pick"},
		{"dirt", 8, "16 dirt, -, -, 2 wood, -, 1 pick"},
		{"dirt", 9, "15 dirt, -, -, 2 wood, -, 1 pick"},
		{"dirt", 23, "1 dirt, -, -, 2 wood, -, 1 pick"},
		{"dirt", 24, "-, -, -, 2 wood, -, 1 pick"},
		{"wood", 1, "16 dirt, -, 3 dirt, 1 wood, 5 dirt, 1 pick"},
		{"wood", 2, "16 dirt, -, 3 dirt, -, 5 dirt, 1 pick"},
		{"pick", 1, "16 dirt, -, 3 dirt, 2 wood, 5 dirt, -"},
	} {
		out, err := bag.Spend(slots(t, l), names[c.i], c.n)
		has(t, "Spend", out, c.out)
		want(t, "Spend", err, api.OK)
	}
}

// P9.3: which error Spend tells first; beside it stands l.
func TestSpendErrors(t *testing.T) {
	for _, c := range []struct {
		l   string
		i   string
		n   int
		err api.Errno
	}{
		{"3 dirt, 0 dirt", "dirt", 1, api.ErrBag}, {"3 dirt, 17 wood", "dirt", 1, api.ErrBag}, {"3 dirt, -1 dirt", "dirt", 1, api.ErrBag},
		{"3 dirt, 1 air", "dirt", 1, api.ErrBag}, {"3 dirt, 1 air", "air", 1, api.ErrBag}, {"1 thirteen", "thirteen", 1, api.ErrBag},
		{"3 dirt, 17 wood", "dirt", 0, api.ErrBag}, {"3 dirt, 17 wood", "dirt", 99, api.ErrBag}, {"3 last", "last", -1, api.ErrBag},
		{"3 dirt, -", "dirt", 0, api.ErrCount}, {"3 dirt, -", "dirt", -1, api.ErrCount}, {"3 dirt, -", "dirt", math.MinInt, api.ErrCount},
		{"3 dirt, -", "wood", 0, api.ErrCount}, {"3 dirt, -", "air", 0, api.ErrCount}, {"", "dirt", 0, api.ErrCount},
		{"3 dirt, -", "dirt", 4, api.ErrWant}, {"3 dirt, 2 dirt", "dirt", 6, api.ErrWant}, {"3 dirt, 2 wood", "dirt", 4, api.ErrWant},
		{"3 dirt, -", "dirt", math.MaxInt, api.ErrWant}, {"3 dirt, -", "dirt", 1<<32 + 1, api.ErrWant},
		{"3 dirt, -", "wood", 1, api.ErrWant}, {"3 dirt, -", "air", 1, api.ErrWant}, {"-, -", "air", 1, api.ErrWant},
		{"3 dirt, -", "thirteen", 1, api.ErrWant}, {"3 dirt, -", "last", 1, api.ErrWant}, {"", "dirt", 1, api.ErrWant},
	} {
		out, err := bag.Spend(slots(t, c.l), names[c.i], c.n)
		what := "Spend(" + c.l + ", " + c.i + ", " + strconv.Itoa(c.n) + ")"
		has(t, what, out, c.l)
		want(t, what, err, c.err)
	}
}

// P9.4: all of more's slots are put, one behind the other; or none of them.
func TestAll(t *testing.T) {
	for _, c := range []struct {
		l, more, out string
		err          api.Errno
	}{
		{"", "", "", api.OK}, {"", "-, -", "", api.OK}, {"3 dirt, -", "", "3 dirt, -", api.OK}, {"3 dirt, -", "-", "3 dirt, -", api.OK},
		{"16 dirt", "-, -, -", "16 dirt", api.OK},
		{"3 dirt, -", "2 dirt, -", "5 dirt, -", api.OK},
		{"3 dirt, -", "16 dirt", "16 dirt, 3 dirt", api.OK},
		{"3 dirt, -", "2 wood, 2 dirt", "5 dirt, 2 wood", api.OK},
		{"-, -", "2 wood, 2 dirt", "2 wood, 2 dirt", api.OK},
		{"-, -", "2 dirt, 2 wood", "2 dirt, 2 wood", api.OK},
		{"-, -", "-, 9 dirt, -, 9 dirt, -", "16 dirt, 2 dirt", api.OK},
		{"-, 15 dirt, 1 wood, -", "1 leaf, 2 dirt, 3 wood", "1 leaf, 16 dirt, 4 wood, 1 dirt", api.OK},
		{"-, 15 dirt, 1 wood, -", "2 dirt, 1 leaf, 3 wood", "1 dirt, 16 dirt, 4 wood, 1 leaf", api.OK},
		{"4 chest, -", "1 chest, 3 chest", "4 chest, 4 chest", api.OK},
		{"4 chest, -", "2 chest, 3 chest", "4 chest, -", api.ErrRoom},
		{"", "1 dirt", "", api.ErrRoom},
		{"16 dirt, -", "1 dirt, 1 wood", "16 dirt, -", api.ErrRoom},
		{"3 dirt, -", "13 dirt, 1 wood, 1 dirt", "3 dirt, -", api.ErrRoom},
		{"3 dirt, -", "1 wood, 14 dirt", "3 dirt, -", api.ErrRoom},
		{"3 dirt, -", "14 dirt, 1 wood", "3 dirt, -", api.ErrRoom},
		{"3 dirt, -", "1 leaf, 1 wood, -", "3 dirt, -", api.ErrRoom},
		{"1 pick", "-, 1 pick", "1 pick", api.ErrRoom},
		{"1 pick", "1 wood, -", "1 pick", api.ErrRoom},
		{"17 dirt, -", "1 dirt", "17 dirt, -", api.ErrBag}, {"17 dirt, -", "-", "17 dirt, -", api.ErrBag}, {"17 dirt", "", "17 dirt", api.ErrBag},
		{"-, 1 air", "1 dirt", "-, 1 air", api.ErrBag}, {"0 dirt", "1 dirt", "0 dirt", api.ErrBag}, {"-1 dirt", "1 dirt", "-1 dirt", api.ErrBag},
		{"3 dirt, -", "17 dirt", "3 dirt, -", api.ErrBag}, {"3 dirt, -", "1 dirt, 0 dirt", "3 dirt, -", api.ErrBag},
		{"3 dirt, -", "-1 dirt", "3 dirt, -", api.ErrBag}, {"3 dirt, -", "1 air", "3 dirt, -", api.ErrBag},
		{"3 dirt, -", "1 thirteen", "3 dirt, -", api.ErrBag}, {"", "0 last", "", api.ErrBag},
		{"16 dirt", "1 dirt, 1 dirt, 17 dirt", "16 dirt", api.ErrBag}, {"17 dirt", "16 dirt, 5 chest", "17 dirt", api.ErrBag},
	} {
		out, err := bag.All(slots(t, c.l), slots(t, c.more))
		what := "All(" + c.l + "; " + c.more + ")"
		has(t, what, out, c.out)
		want(t, what, err, c.err)
		if fits := bag.Fits(slots(t, c.l), slots(t, c.more)); fits != (c.err == api.OK) {
			t.Errorf("Fits(%s; %s): %t", c.l, c.more, fits)
		}
	}
}

// P9.4: a bag whose slots are many is put whole, too.
func TestAllOfMany(t *testing.T) {
	more := slices.Repeat([]api.Slot{{Item: api.Stick, N: 5}, {}, {Item: api.Pick, N: 1}}, 200)
	l, err := bag.All(make([]api.Slot, 200+63), more)
	want(t, "All", err, api.OK)
	if !bag.Right(l, 263) || bag.Count(l, api.Stick) != 1000 || bag.Count(l, api.Pick) != 200 {
		t.Errorf("All: %q", show(l))
	}
	l, err = bag.All(make([]api.Slot, 200+62), more)
	want(t, "All, a slot less", err, api.ErrRoom)
	if !slices.Equal(l, make([]api.Slot, 262)) || bag.Fits(l, more) {
		t.Errorf("All, a slot less: %q", show(l))
	}
}
