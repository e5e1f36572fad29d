package craft_test

import (
	"slices"
	"sync"
	"testing"

	"homestead/api"
	"homestead/craft"
)

// spoil writes over all of l, and its spare room.
func spoil(l []api.Slot) {
	for at := range l[:cap(l)] {
		l[:cap(l)][at] = api.Slot{Item: api.Pick, N: -1}
	}
}

// made is a bag, a recipe, and what Make tells of them.
type made struct {
	l   string
	n   int
	err api.Errno
}

// eachEnd has Make done, and each of its errors told.
func eachEnd() []made {
	return []made{
		{"3 wood, -", 0, api.OK}, {"1 wood", 0, api.OK}, {"-, 2 stick, 2 ore, 9 torch", 3, api.OK},
		{"17 wood, -", 0, api.ErrBag}, {"3 wood, 9 plank, -", 7, api.ErrRecipe}, {"", -1, api.ErrRecipe},
		{"", 0, api.ErrWant}, {"2 stick, 2 ingot, -", 5, api.ErrWant},
		{"2 wood, 13 plank", 0, api.ErrRoom}, {"5 stone, 2 dirt", 6, api.ErrRoom},
	}
}

// R3: what is handed in stays as it is, its spare room too; what Make answers, beside an error too, shares no memory with it, nor with another answer.
func TestMadeIsNew(t *testing.T) {
	for _, c := range eachEnd() {
		around := api.Slot{Item: api.Stone, N: 7}
		whole := slices.Concat([]api.Slot{around}, slots(t, c.l), []api.Slot{around, around})
		as := slices.Clone(whole)
		l := whole[1 : len(whole)-2]
		first, err := craft.Make(l, c.n)
		second, _ := craft.Make(l, c.n)
		wanted := slices.Clone(second)
		if err != c.err || !slices.Equal(first, wanted) {
			t.Errorf("Make(%q, %d): %q, error %d; then %q", c.l, c.n, show(first), err, show(wanted))
		}
		spoil(first)
		if !slices.Equal(whole, as) || !slices.Equal(second, wanted) {
			t.Errorf("Make(%q, %d): %q was handed in; another answer is %q", c.l, c.n, show(whole), show(second))
		}
		spoil(whole)
		if !slices.Equal(second, wanted) {
			t.Errorf("Make(%q, %d): the answer is %q, not %q", c.l, c.n, show(second), show(wanted))
		}
	}
}

// R3: what Can is asked of stays as it is, its spare room too; what it answers is new each time.
func TestCanIsNew(t *testing.T) {
	whole := slots(t, "7 stone, 1 dirt, 4 stone, 3 ingot, 2 stick, 1 ore, 1 wood, 8 plank, 7 stone, 7 stone")
	as := slices.Clone(whole)
	first := craft.Can(whole[1:8])
	second := craft.Can(whole[1:8])
	clear(first[:cap(first)])
	if wanted := []int{0, 1, 2, 3, 4, 5, 6}; !slices.Equal(second, wanted) || !slices.Equal(craft.Can(whole[1:8]), wanted) {
		t.Errorf("Can: %v", second)
	}
	if !slices.Equal(whole, as) {
		t.Errorf("Can of %q: that is %q", show(as), show(whole))
	}
}

// R4: many may ask of one bag at once, and are told the same.
func TestManyAsk(t *testing.T) {
	for _, c := range eachEnd() {
		l := slots(t, c.l)
		wanted, _ := craft.Make(l, c.n)
		can := craft.Can(l)
		var asking sync.WaitGroup
		for range 8 {
			asking.Go(func() {
				for range 50 {
					out, err := craft.Make(l, c.n)
					if !slices.Equal(out, wanted) || err != c.err || !slices.Equal(craft.Can(l), can) {
						t.Errorf("Make(%q, %d): %q, error %d", c.l, c.n, show(out), err)
					}
					spoil(out)
				}
			})
		}
		asking.Wait()
	}
}
