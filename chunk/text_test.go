package chunk_test

import (
	"math"
	"slices"
	"strconv"
	"strings"
	"testing"

	"homestead/api"
	"homestead/items"
)

// nameOf is what texts of these tests call i; what is no item (Air, too) goes by its number.
func nameOf(i api.Item) string {
	if name := items.Name(i); name != "" {
		return name
	}
	return "item" + strconv.Itoa(int(i))
}

// itemOf is the item, or what is none, that a text calls so.
func itemOf(t *testing.T, name string) api.Item {
	t.Helper()
	for i := range math.MaxUint8 + 1 {
		if nameOf(api.Item(i)) == name {
			return api.Item(i)
		}
	}
	t.Fatalf("item %q", name)
	return api.Air
}

// number is a text as a number.
func number(t *testing.T, text string) int {
	t.Helper()
	n, err := strconv.Atoi(text)
	if err != nil {
		t.Fatal(err)
	}
	return n
}

// slot is the one that a text tells: "3 dirt"; a dash is an empty one.
func slot(t *testing.T, text string) api.Slot {
	t.Helper()
	if text == "-" {
		return api.Slot{}
	}
	count, name, _ := strings.Cut(text, " ")
	return api.Slot{Item: itemOf(t, name), N: number(t, count)}
}

// slots are those that a text tells: "3 dirt, -, 1 pick".
func slots(t *testing.T, text string) []api.Slot {
	t.Helper()
	var l []api.Slot
	for _, part := range parts(text, ", ") {
		l = append(l, slot(t, part))
	}
	return l
}

// bagOf are those that a text tells, and empty ones behind them, up to six.
func bagOf(t *testing.T, text string) []api.Slot {
	t.Helper()
	l := slots(t, text)
	return append(l, make([]api.Slot, 6-len(l))...)
}

// parts are what a text has between those marks; an empty text has none.
func parts(text, mark string) []string {
	if text == "" {
		return nil
	}
	return strings.Split(text, mark)
}

// chunkOf is the chunk that a text tells: where it is; what its cells are, if not Air; its heaps; its boxes, with empty slots behind those named, up to six:
// "3 5 | 0 dirt, 9 chest | 4: 3 dirt, 4: 1 pick | 9: 4 dirt, -, 1 pick; 10: 4 dirt".
func chunkOf(t *testing.T, text string) api.Chunk {
	t.Helper()
	fields := append(strings.Split(text, "|"), "", "", "")
	x, y, _ := strings.Cut(strings.TrimSpace(fields[0]), " ")
	c := api.Chunk{X: number(t, x), Y: number(t, y), Cells: make([]api.Item, 64)}
	for _, part := range parts(strings.TrimSpace(fields[1]), ", ") {
		cell, name, _ := strings.Cut(part, " ")
		c.Cells[number(t, cell)] = itemOf(t, name)
	}
	for _, part := range parts(strings.TrimSpace(fields[2]), ", ") {
		cell, text, _ := strings.Cut(part, ": ")
		c.Heaps = append(c.Heaps, api.Heap{Cell: number(t, cell), Slot: slot(t, text)})
	}
	for _, part := range parts(strings.TrimSpace(fields[3]), "; ") {
		cell, text, _ := strings.Cut(part, ":")
		c.Boxes = append(c.Boxes, api.Box{Cell: number(t, cell), Bag: bagOf(t, strings.TrimSpace(text))})
	}
	return c
}

// showSlots is l as a text.
func showSlots(l []api.Slot) string {
	var out []string
	for _, s := range l {
		if s == (api.Slot{}) {
			out = append(out, "-")
		} else {
			out = append(out, strconv.Itoa(s.N)+" "+nameOf(s.Item))
		}
	}
	return strings.Join(out, ", ")
}

// show is c as a text: unlike chunks have unlike texts, but that an empty list and none are the same.
func show(c api.Chunk) string {
	var cells, heaps, boxes []string
	for cell, i := range c.Cells {
		if i != api.Air {
			cells = append(cells, strconv.Itoa(cell)+" "+nameOf(i))
		}
	}
	for _, h := range c.Heaps {
		heaps = append(heaps, strconv.Itoa(h.Cell)+": "+strconv.Itoa(h.Slot.N)+" "+nameOf(h.Slot.Item))
	}
	for _, b := range c.Boxes {
		boxes = append(boxes, strconv.Itoa(b.Cell)+": "+showSlots(b.Bag))
	}
	if len(c.Cells) != 64 {
		cells = append(cells, "of "+strconv.Itoa(len(c.Cells)))
	}
	place := strconv.Itoa(c.X) + " " + strconv.Itoa(c.Y)
	return strings.Join([]string{place, strings.Join(cells, ", "), strings.Join(heaps, ", "), strings.Join(boxes, "; ")}, " | ")
}

// clone is c in memory of its own.
func clone(c api.Chunk) api.Chunk {
	c.Cells, c.Heaps, c.Boxes = slices.Clone(c.Cells), slices.Clone(c.Heaps), slices.Clone(c.Boxes)
	for at, b := range c.Boxes {
		c.Boxes[at].Bag = slices.Clone(b.Bag)
	}
	return c
}

// changed is c with a change, in memory of its own.
func changed(c api.Chunk, change func(c *api.Chunk)) api.Chunk {
	c = clone(c)
	change(&c)
	return c
}

// is complains unless a chunk is the one that a text tells, and its error that one.
func is(t *testing.T, what string, got api.Chunk, err api.Errno, text string, wanted api.Errno) {
	t.Helper()
	if wants := show(chunkOf(t, text)); show(got) != wants || err != wanted {
		t.Errorf("%s: %q, error %d; not %q, error %d", what, show(got), err, wants, wanted)
	}
}
