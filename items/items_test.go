package items_test

import (
	"math"
	"slices"
	"strconv"
	"strings"
	"sync"
	"testing"

	"homestead/api"
	"homestead/items"
)

// itemTable is the chapter's table of items.
const itemTable = `
| 1 | dirt | 16 | yes | dirt |
| 2 | stone | 16 | yes | stone |
| 3 | wood | 16 | yes | wood |
| 4 | leaf | 16 | yes | berry |
| 5 | plank | 16 | yes | plank |
| 6 | stick | 16 | no | – |
| 7 | ore | 16 | yes | ore |
| 8 | ingot | 16 | no | – |
| 9 | chest | 4 | yes | chest |
| 10 | torch | 16 | yes | torch |
| 11 | berry | 16 | no | – |
| 12 | pick | 1 | no | – |
`

// recipeTable is the chapter's table of recipes.
const recipeTable = `
| 0 | 1 wood | 4 plank |
| 1 | 2 plank | 4 stick |
| 2 | 8 plank | 1 chest |
| 3 | 1 stick, 1 ore | 4 torch |
| 4 | 1 ore, 1 wood | 1 ingot |
| 5 | 2 stick, 3 ingot | 1 pick |
| 6 | 4 stone, 1 dirt | 1 ore |
`

// rows are the rows of a table, each as its fields.
func rows(table string) [][]string {
	var out [][]string
	for line := range strings.Lines(strings.TrimSpace(table)) {
		var fields []string
		for field := range strings.SplitSeq(strings.Trim(line, "|\n"), "|") {
			fields = append(fields, strings.TrimSpace(field))
		}
		out = append(out, fields)
	}
	return out
}

// number is a field as a number.
func number(t *testing.T, field string) int {
	t.Helper()
	n, err := strconv.Atoi(field)
	if err != nil {
		t.Fatal(err)
	}
	return n
}

// itemNamed is the item that the chapter's table calls so; Air, if it has a dash.
func itemNamed(t *testing.T, name string) api.Item {
	t.Helper()
	if name == "–" {
		return api.Air
	}
	for _, row := range rows(itemTable) {
		if row[1] == name {
			return api.Item(number(t, row[0]))
		}
	}
	t.Fatalf("no item %q", name)
	return api.Air
}

// slots is a field that has so many of an item, or several such.
func slots(t *testing.T, field string) []api.Slot {
	t.Helper()
	var out []api.Slot
	for part := range strings.SplitSeq(field, ", ") {
		count, name, _ := strings.Cut(part, " ")
		out = append(out, api.Slot{Item: itemNamed(t, name), N: number(t, count)})
	}
	return out
}

// says complains unless that is what is told of an item.
func says(t *testing.T, i api.Item, name string, stack int, block bool, gives api.Item) {
	t.Helper()
	if got := items.Name(i); got != name {
		t.Errorf("Name(%d): %q, not %q", i, got, name)
	}
	if got := items.Stack(i); got != stack {
		t.Errorf("Stack(%d): %d, not %d", i, got, stack)
	}
	if got := items.Block(i); got != block {
		t.Errorf("Block(%d): %t, not %t", i, got, block)
	}
	if got := items.Gives(i); got != gives {
		t.Errorf("Gives(%d): %d, not %d", i, got, gives)
	}
}

// P8.1: the chapter's examples.
func TestExamples(t *testing.T) {
	if got := items.Stack(api.Chest); got != 4 {
		t.Errorf("Stack(chest): %d", got)
	}
	if got := items.Gives(api.Leaf); got != api.Berry {
		t.Errorf("Gives(leaf): %d", got)
	}
	of, makes, there := items.Recipe(0)
	if !there || !slices.Equal(of, []api.Slot{{Item: api.Wood, N: 1}}) || makes != (api.Slot{Item: api.Plank, N: 4}) {
		t.Errorf("Recipe(0): %v, %v, %t", of, makes, there)
	}
	of, makes, there = items.Recipe(7)
	if there || len(of) != 0 || makes != (api.Slot{}) {
		t.Errorf("Recipe(7): %v, %v, %t", of, makes, there)
	}
}

// P8.1: of each item what its row says.
func TestItems(t *testing.T) {
	table := rows(itemTable)
	if len(table) != api.Items {
		t.Fatalf("%d rows", len(table))
	}
	for _, row := range table {
		i := api.Item(number(t, row[0]))
		says(t, i, row[1], number(t, row[2]), row[3] == "yes", itemNamed(t, row[4]))
	}
}

// P8.1: the names that the program's items have are those of the table.
func TestNames(t *testing.T) {
	for i, name := range map[api.Item]string{
		api.Dirt: "dirt", api.Stone: "stone", api.Wood: "wood", api.Leaf: "leaf",
		api.Plank: "plank", api.Stick: "stick", api.Ore: "ore", api.Ingot: "ingot",
		api.Chest: "chest", api.Torch: "torch", api.Berry: "berry", api.Pick: "pick",
	} {
		if got := items.Name(i); got != name {
			t.Errorf("Name(%d): %q, not %q", i, got, name)
		}
	}
}

// P8.1: of what is no item, Air and all above the last one, nothing is told.
func TestNoItem(t *testing.T) {
	says(t, api.Air, "", 0, false, api.Air)
	for i := api.Items + 1; i <= math.MaxUint8; i++ {
		says(t, api.Item(i), "", 0, false, api.Air)
	}
}

// P8.1: what is no block gives nothing; what is one gives something.
func TestBlocksGive(t *testing.T) {
	for i := range math.MaxUint8 + 1 {
		if block, gives := items.Block(api.Item(i)), items.Gives(api.Item(i)); block != (gives != api.Air) {
			t.Errorf("%d: Block %t, Gives %d", i, block, gives)
		}
	}
}

// P8.1: of each recipe what its row says, in the table's order.
func TestRecipes(t *testing.T) {
	table := rows(recipeTable)
	if got := items.Recipes(); got != 7 || len(table) != 7 {
		t.Fatalf("Recipes: %d; %d rows", got, len(table))
	}
	for n, row := range table {
		if number(t, row[0]) != n {
			t.Fatalf("row %d: %q", n, row)
		}
		of, makes, there := items.Recipe(n)
		if !there || !slices.Equal(of, slots(t, row[1])) || makes != slots(t, row[2])[0] {
			t.Errorf("Recipe(%d): %v, %v, %t; not %q", n, of, makes, there, row)
		}
	}
}

// P8.1: a number beyond those of the recipes has nothing.
func TestNoRecipe(t *testing.T) {
	for _, n := range []int{math.MinInt, math.MinInt32, -256, -8, -7, -2, -1, 7, 8, 13, 255, 256, 263, 1 << 32, 1<<32 + 1, math.MaxInt - 1, math.MaxInt} {
		of, makes, there := items.Recipe(n)
		if there || len(of) != 0 || makes != (api.Slot{}) {
			t.Errorf("Recipe(%d): %v, %v, %t", n, of, makes, there)
		}
	}
}

// P8.2: every recipe is of items, each once, at most a slot's room of each, and makes at most a slot's room of one.
func TestRecipesFitSlots(t *testing.T) {
	fits := func(s api.Slot) bool {
		return items.Name(s.Item) != "" && s.N >= 1 && s.N <= items.Stack(s.Item)
	}
	for n := range items.Recipes() {
		of, makes, there := items.Recipe(n)
		if !there || len(of) == 0 || !fits(makes) {
			t.Errorf("Recipe(%d): of %d, makes %v, %t", n, len(of), makes, there)
		}
		for at, s := range of {
			again := slices.ContainsFunc(of[:at], func(ahead api.Slot) bool { return ahead.Item == s.Item })
			if again || !fits(s) {
				t.Errorf("Recipe(%d): of %v", n, of)
			}
		}
	}
}

// P8.2: what a block gives is an item.
func TestBlocksGiveItems(t *testing.T) {
	for i := range math.MaxUint8 + 1 {
		if items.Block(api.Item(i)) && items.Stack(items.Gives(api.Item(i))) < 1 {
			t.Errorf("%d gives %d", i, items.Gives(api.Item(i)))
		}
	}
}

// spoil writes over all of l, and its spare room.
func spoil(l []api.Slot) {
	l = l[:cap(l)]
	for i := range l {
		l[i] = api.Slot{Item: api.Pick, N: -1}
	}
}

// R3: what a recipe is of is told in new memory each time.
func TestRecipeIsNew(t *testing.T) {
	for n := range items.Recipes() {
		first, _, _ := items.Recipe(n)
		second, _, _ := items.Recipe(n)
		wanted := slices.Clone(second)
		spoil(first)
		third, _, _ := items.Recipe(n)
		if !slices.Equal(second, wanted) || !slices.Equal(third, wanted) {
			t.Errorf("Recipe(%d): %v, then %v; not %v", n, second, third, wanted)
		}
	}
}

// R3: what recipes are of shares no memory with that of others.
func TestRecipesAreApart(t *testing.T) {
	var told [][]api.Slot
	for n := range items.Recipes() {
		of, _, _ := items.Recipe(n)
		told = append(told, of)
	}
	for n, row := range rows(recipeTable) {
		if !slices.Equal(told[n], slots(t, row[1])) {
			t.Errorf("Recipe(%d): %v, not %q", n, told[n], row[1])
		}
		spoil(told[n])
	}
}

// R4: many may ask at once, and are told the same.
func TestManyAsk(t *testing.T) {
	var asking sync.WaitGroup
	for range 8 {
		asking.Go(func() {
			for n := range items.Recipes() {
				of, makes, _ := items.Recipe(n)
				spoil(of)
				items.Name(makes.Item)
			}
		})
	}
	asking.Wait()
	TestRecipes(t)
	TestItems(t)
}
