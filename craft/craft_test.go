package craft_test

import (
	"math"
	"slices"
	"strconv"
	"strings"
	"testing"

	"homestead/api"
	"homestead/craft"
	"homestead/items"
)

// nameOf is what texts of these tests call i; what is no item (Air, too) goes by its number.
func nameOf(i api.Item) string {
	if name := items.Name(i); name != "" {
		return name
	}
	return "item" + strconv.Itoa(int(i))
}

// slots are those that text tells: "16 dirt, -, 1 pick"; a dash is an empty one.
func slots(t *testing.T, text string) []api.Slot {
	t.Helper()
	var l []api.Slot
	for part := range strings.SplitSeq(text, ", ") {
		count, name, _ := strings.Cut(part, " ")
		n, err := strconv.Atoi(count)
		i := 0
		for i <= math.MaxUint8 && nameOf(api.Item(i)) != name {
			i++
		}
		switch {
		case part == "-":
			l = append(l, api.Slot{})
		case err == nil && i <= math.MaxUint8:
			l = append(l, api.Slot{Item: api.Item(i), N: n})
		case text != "":
			t.Fatalf("slot %q", part)
		}
	}
	return l
}

// show is l as a text, as slots reads it.
func show(l []api.Slot) string {
	var parts []string
	for _, s := range l {
		if s == (api.Slot{}) {
			parts = append(parts, "-")
		} else {
			parts = append(parts, strconv.Itoa(s.N)+" "+nameOf(s.Item))
		}
	}
	return strings.Join(parts, ", ")
}

// makes complains unless Make of l and the recipe n answers out and err.
func makes(t *testing.T, l string, n int, out string, err api.Errno) {
	t.Helper()
	got, told := craft.Make(slots(t, l), n)
	if !slices.Equal(got, slots(t, out)) || told != err {
		t.Errorf("Make(%q, %d): %q, error %d; not %q, error %d", l, n, show(got), told, out, err)
	}
}

// can complains unless Can of l answers those recipes.
func can(t *testing.T, l string, recipes ...int) {
	t.Helper()
	if got := craft.Can(slots(t, l)); !slices.Equal(got, recipes) {
		t.Errorf("Can(%q): %v, not %v", l, got, recipes)
	}
}

// The chapter's examples.
func TestExamples(t *testing.T) {
	makes(t, "3 wood, -", 0, "2 wood, 4 plank", api.OK)
	makes(t, "16 wood", 0, "16 wood", api.ErrRoom)
	can(t, "1 wood, -", 0)
}

// P10.1: what each recipe is of, in all, becomes what it makes.
func TestMakeEachRecipe(t *testing.T) {
	makes(t, "1 wood, -", 0, "4 plank, -", api.OK)
	makes(t, "2 plank, -", 1, "4 stick, -", api.OK)
	makes(t, "8 plank, -", 2, "1 chest, -", api.OK)
	makes(t, "1 stick, 1 ore, -", 3, "4 torch, -, -", api.OK)
	makes(t, "1 ore, 1 wood, -", 4, "1 ingot, -, -", api.OK)
	makes(t, "2 stick, 3 ingot, -", 5, "1 pick, -, -", api.OK)
	makes(t, "4 stone, 1 dirt, -", 6, "1 ore, -, -", api.OK)
}

// P10.1: of what there is more of, the rest stays; other items stay where they are.
func TestMakeLeavesTheRest(t *testing.T) {
	makes(t, "16 wood, -", 0, "15 wood, 4 plank", api.OK)
	makes(t, "3 plank, -", 1, "1 plank, 4 stick", api.OK)
	makes(t, "9 plank, -", 2, "1 plank, 1 chest", api.OK)
	makes(t, "5 leaf, 7 ore, -, 2 stick, 1 pick", 3, "5 leaf, 6 ore, 4 torch, 1 stick, 1 pick", api.OK)
	makes(t, "-, 16 wood, 16 ore", 4, "1 ingot, 15 wood, 15 ore", api.OK)
	makes(t, "1 pick, 16 ingot, 16 stick, -", 5, "1 pick, 13 ingot, 14 stick, 1 pick", api.OK)
	makes(t, "2 dirt, 5 stone, 3 berry, -", 6, "1 dirt, 1 stone, 3 berry, 1 ore", api.OK)
}

// P10.1: what is spent goes from the last slot that has it on, towards the first.
func TestMakeSpendsFromTheLast(t *testing.T) {
	makes(t, "3 wood, -, 2 wood", 0, "3 wood, 4 plank, 1 wood", api.OK)
	makes(t, "3 wood, -, 1 wood", 0, "3 wood, 4 plank, -", api.OK)
	makes(t, "1 plank, 1 plank, -", 1, "4 stick, -, -", api.OK)
	makes(t, "5 plank, 1 plank, -", 1, "4 plank, 4 stick, -", api.OK)
	makes(t, "5 plank, 4 plank, 3 plank, -", 2, "4 plank, 1 chest, -, -", api.OK)
	makes(t, "1 ingot, 9 stick, 1 ingot, 1 stick, 1 ingot", 5, "1 pick, 8 stick, -, -, -", api.OK)
	makes(t, "2 ingot, 9 stick, 1 ingot, 2 stick, 1 ingot", 5, "1 ingot, 9 stick, 1 pick, -, -", api.OK)
	makes(t, "3 stone, 1 dirt, 2 stone, 2 dirt", 6, "1 stone, 1 dirt, 1 ore, 1 dirt", api.OK)
}

// P10.1: what is made goes first into slots that have it, from the first one on, then into empty ones.
func TestMakePuts(t *testing.T) {
	makes(t, "-, 3 wood, 5 plank", 0, "-, 2 wood, 9 plank", api.OK)
	makes(t, "-, 3 wood, 12 plank", 0, "-, 2 wood, 16 plank", api.OK)
	makes(t, "-, 3 wood, 13 plank", 0, "1 plank, 2 wood, 16 plank", api.OK)
	makes(t, "-, 15 plank, 3 wood, 14 plank, -", 0, "1 plank, 16 plank, 2 wood, 16 plank, -", api.OK)
	makes(t, "14 plank, 3 wood, 14 plank", 0, "16 plank, 2 wood, 16 plank", api.OK)
	makes(t, "-, 3 chest, 9 plank", 2, "-, 4 chest, 1 plank", api.OK)
	makes(t, "-, 4 chest, 9 plank", 2, "1 chest, 4 chest, 1 plank", api.OK)
	makes(t, "1 pick, 3 stick, 4 ingot, -, -", 5, "1 pick, 1 stick, 1 ingot, 1 pick, -", api.OK)
	makes(t, "15 torch, 14 torch, 2 stick, 2 ore, 15 torch", 3, "16 torch, 16 torch, 1 stick, 1 ore, 16 torch", api.OK)
}

// P10.1: whether there is room is asked behind spending, which may empty slots.
func TestMakeRoomBySpending(t *testing.T) {
	makes(t, "1 wood", 0, "4 plank", api.OK)
	makes(t, "2 plank", 1, "4 stick", api.OK)
	makes(t, "8 plank", 2, "1 chest", api.OK)
	makes(t, "16 dirt, 1 wood", 0, "16 dirt, 4 plank", api.OK)
	makes(t, "1 ore, 16 wood", 4, "1 ingot, 15 wood", api.OK)
	makes(t, "16 ore, 1 wood", 4, "15 ore, 1 ingot", api.OK)
	makes(t, "1 stick, 16 ore", 3, "4 torch, 15 ore", api.OK)
	makes(t, "16 stick, 1 ore", 3, "15 stick, 4 torch", api.OK)
	makes(t, "16 stone, 1 dirt", 6, "12 stone, 1 ore", api.OK)
	makes(t, "4 stone, 16 dirt", 6, "1 ore, 15 dirt", api.OK)
	makes(t, "16 wood, 1 wood", 0, "16 wood, 4 plank", api.OK)
	makes(t, "1 wood, 13 plank", 0, "1 plank, 16 plank", api.OK)
}

// P10.1: ErrRoom, if there is no room for all that is made; then nothing is spent.
func TestMakeNoRoom(t *testing.T) {
	for _, c := range []struct {
		l string
		n int
	}{
		{"2 wood", 0}, {"2 wood, 13 plank", 0}, {"2 wood, 16 plank", 0}, {"16 wood, 2 wood", 0}, {"2 wood, 15 plank, 14 plank", 0},
		{"3 plank", 1}, {"3 plank, 13 stick", 1}, {"15 plank, 3 plank", 1},
		{"9 plank", 2}, {"9 plank, 4 chest", 2}, {"16 plank, 1 pick", 2},
		{"2 stick, 2 ore", 3}, {"2 stick, 2 ore, 13 torch", 3},
		{"2 ore, 2 wood", 4}, {"2 ore, 2 wood, 16 ingot", 4},
		{"3 stick, 4 ingot", 5}, {"3 stick, 4 ingot, 1 pick", 5},
		{"5 stone, 2 dirt", 6}, {"5 stone, 2 dirt, 16 ore", 6},
	} {
		makes(t, c.l, c.n, c.l, api.ErrRoom)
	}
}

// P10.1: ErrWant, if there is less of something, be it all that the recipe is of or one of it; ahead of ErrRoom.
func TestMakeWants(t *testing.T) {
	for _, c := range []struct {
		l string
		n int
	}{
		{"", 0}, {"-", 0}, {"16 dirt, 16 leaf", 0}, {"16 plank, -", 0},
		{"1 plank, -", 1}, {"", 1}, {"16 stick, 16 wood, 1 plank", 1},
		{"7 plank, -", 2}, {"3 plank, 4 plank, -", 2}, {"16 wood", 2}, {"", 2},
		{"1 stick, -", 3}, {"1 ore, -", 3}, {"16 stick, 16 stick", 3}, {"16 ore, 16 torch", 3}, {"", 3},
		{"1 ore, -", 4}, {"1 wood, -", 4}, {"16 ore, 16 ore", 4}, {"16 wood, 16 ingot", 4}, {"", 4},
		{"1 stick, 3 ingot, -", 5}, {"2 stick, 2 ingot, -", 5}, {"16 stick, 1 ingot, 1 ingot", 5}, {"1 stick, 16 ingot", 5}, {"", 5},
		{"3 stone, 1 dirt, -", 6}, {"4 stone, -", 6}, {"16 stone, 16 stone", 6}, {"16 dirt, 3 stone", 6}, {"", 6},
	} {
		makes(t, c.l, c.n, c.l, api.ErrWant)
	}
}

// P10.1: ErrRecipe, if there is none such; ahead of ErrWant and ErrRoom.
func TestMakeNoRecipe(t *testing.T) {
	for _, n := range []int{math.MinInt, math.MinInt32, -256, -7, -2, -1, 7, 8, 13, 255, 256, 1 << 32, 1<<32 + 1, math.MaxInt} {
		for _, l := range []string{"", "-", "3 wood, 9 plank, -", "16 dirt, 16 leaf"} {
			makes(t, l, n, l, api.ErrRecipe)
		}
	}
}

// P10.1: ErrBag, unless l is a right bag; ahead of all other errors.
func TestMakeNoBag(t *testing.T) {
	for _, l := range []string{
		"17 wood, -", "3 wood, 17 dirt, -", "3 wood, 0 wood, -", "3 wood, -1 wood, -", "3 wood, -, 1 item0", "3 wood, -, 0 item13", "3 wood, -, 1 item255",
		"16 stick, 16 ingot, 2 pick", "5 chest, 16 plank", "1 item13", "0 dirt", "-3 item0",
	} {
		for _, n := range []int{0, 1, 2, 3, 4, 5, 6, 7, -1, math.MinInt, math.MaxInt} {
			makes(t, l, n, l, api.ErrBag)
		}
		can(t, l)
	}
}

// P10.1: a bag may have more slots than a player has.
func TestMakeOfMany(t *testing.T) {
	l := append(slices.Repeat([]api.Slot{{Item: api.Plank, N: 1}}, 1000), api.Slot{Item: api.Chest, N: 4})
	out, err := craft.Make(l, 2)
	wanted := slices.Clone(l)
	copy(wanted[992:], make([]api.Slot, 8))
	wanted[992] = api.Slot{Item: api.Chest, N: 1}
	if err != api.OK || !slices.Equal(out, wanted) {
		t.Errorf("Make of a thousand planks: %q, error %d", show(out), err)
	}
	if got := craft.Can(l); !slices.Equal(got, []int{1, 2}) {
		t.Errorf("Can of a thousand planks: %v", got)
	}
}

// P10.1: what is made can be used up again, down to a pick.
func TestMakeOneBehindTheOther(t *testing.T) {
	l := slots(t, "12 stone, 3 dirt, 6 wood, -, -, -, -, -")
	for _, n := range []int{6, 6, 6, 0, 1, 4, 4, 4, 5} {
		var err api.Errno
		if l, err = craft.Make(l, n); err != api.OK {
			t.Fatalf("Make(%d): error %d, %q", n, err, show(l))
		}
	}
	if wanted := slots(t, "2 plank, 2 stick, 2 wood, 1 pick, -, -, -, -"); !slices.Equal(l, wanted) {
		t.Errorf("%q, not %q", show(l), show(wanted))
	}
}

// P10.2: the recipes that Make tells no error of, rising.
func TestCan(t *testing.T) {
	can(t, "")
	can(t, "-, -")
	can(t, "16 dirt, 16 leaf, 4 chest, 1 pick, 3 berry, 16 torch, -")
	can(t, "1 wood", 0)
	can(t, "2 wood")
	can(t, "2 wood, -", 0)
	can(t, "1 plank, -")
	can(t, "2 plank, -", 1)
	can(t, "7 plank, -", 1)
	can(t, "8 plank, -", 1, 2)
	can(t, "9 plank")
	can(t, "9 plank, 13 stick")
	can(t, "9 plank, 12 stick", 1)
	can(t, "9 plank, 3 chest", 2)
	can(t, "8 plank", 2)
	can(t, "1 ore, 1 stick", 3)
	can(t, "1 ore, 1 wood", 0, 4)
	can(t, "2 ore, 2 wood")
	can(t, "2 ore, 2 wood, 16 ingot, 12 plank", 0)
	can(t, "2 ore, 2 wood, 15 ingot, 13 plank", 4)
	can(t, "3 ingot, 2 stick", 5)
	can(t, "1 dirt, 4 stone", 6)
	can(t, "1 dirt, 4 stone, 3 ingot, 2 stick, 1 ore, 1 wood, 8 plank", 0, 1, 2, 3, 4, 5, 6)
	can(t, "2 dirt, 5 stone, 4 ingot, 3 stick, 2 ore, 2 wood, 9 plank", 0, 1, 4, 6)
}
