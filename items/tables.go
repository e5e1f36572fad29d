package items

import "homestead/api"

// item is a row of the table of items.
type item struct {
	name  string
	stack int // how many a slot holds
	block bool
	gives api.Item // what it gives when it is broken: Air of no block
}

// itemRows stand at their items; at that of Air, which is no item, is an empty one.
var itemRows = [...]item{
	api.Dirt:  {name: "dirt", stack: 16, block: true, gives: api.Dirt},
	api.Stone: {name: "stone", stack: 16, block: true, gives: api.Stone},
	api.Wood:  {name: "wood", stack: 16, block: true, gives: api.Wood},
	api.Leaf:  {name: "leaf", stack: 16, block: true, gives: api.Berry},
	api.Plank: {name: "plank", stack: 16, block: true, gives: api.Plank},
	api.Stick: {name: "stick", stack: 16},
	api.Ore:   {name: "ore", stack: 16, block: true, gives: api.Ore},
	api.Ingot: {name: "ingot", stack: 16},
	api.Chest: {name: "chest", stack: 4, block: true, gives: api.Chest},
	api.Torch: {name: "torch", stack: 16, block: true, gives: api.Torch},
	api.Berry: {name: "berry", stack: 16},
	api.Pick:  {name: "pick", stack: 1},
}

// recipe is a row of the table of recipes.
type recipe struct {
	of    []api.Slot
	makes api.Slot
}

// recipeRows stand at their numbers. They are made anew for each call, as the slice of a row goes on to whoever is told that row.
func recipeRows() []recipe {
	return []recipe{
		{of: []api.Slot{{Item: api.Wood, N: 1}}, makes: api.Slot{Item: api.Plank, N: 4}},
		{of: []api.Slot{{Item: api.Plank, N: 2}}, makes: api.Slot{Item: api.Stick, N: 4}},
		{of: []api.Slot{{Item: api.Plank, N: 8}}, makes: api.Slot{Item: api.Chest, N: 1}},
		{of: []api.Slot{{Item: api.Stick, N: 1}, {Item: api.Ore, N: 1}}, makes: api.Slot{Item: api.Torch, N: 4}},
		{of: []api.Slot{{Item: api.Ore, N: 1}, {Item: api.Wood, N: 1}}, makes: api.Slot{Item: api.Ingot, N: 1}},
		{of: []api.Slot{{Item: api.Stick, N: 2}, {Item: api.Ingot, N: 3}}, makes: api.Slot{Item: api.Pick, N: 1}},
		{of: []api.Slot{{Item: api.Stone, N: 4}, {Item: api.Dirt, N: 1}}, makes: api.Slot{Item: api.Ore, N: 1}},
	}
}

// tellItem tells the row of i to hear; of what is no item it tells nothing.
func tellItem(i api.Item, hear func(row item)) {
	if i != api.Air && int(i) < len(itemRows) {
		hear(itemRows[i])
	}
}

// tellRecipe tells the row of the recipe n to hear, and answers whether there is one.
func tellRecipe(n int, hear func(row recipe)) bool {
	rows := recipeRows()
	if n < 0 || n >= len(rows) {
		return false
	}
	hear(rows[n])
	return true
}
