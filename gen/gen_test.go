package gen_test

import (
	"bytes"
	"hash/crc32"
	"math"
	"slices"
	"strings"
	"sync"
	"testing"

	"homestead/api"
	"homestead/chunk"
	"homestead/gen"
)

// edges are numbers about the ends of a world's sides, and far from them.
func edges() []int {
	return []int{math.MinInt, math.MinInt + 1, -1 << 32, -129, -128, -16, -8, -7, -1, 0, 1, 7, 8, 15, 16, 17, 120, 126, 127, 128, 129, 255, 256, 1 << 32, 1<<32 + 5, math.MaxInt - 1, math.MaxInt}
}

// seeds are numbers of worlds, small ones and great ones.
func seeds() []uint64 {
	return []uint64{0, 1, 2, 5, 200, 1 << 32, 1 << 63, math.MaxUint64 - 1, math.MaxUint64}
}

func TestMixIsSplitMix64(t *testing.T) {
	// The first numbers of that well-known row, as others have published them.
	published := map[uint64][]uint64{
		0:       {0xe220a8397b1dcdaf, 0x6e789e6aa1b965f4, 0x06c45d188009454f, 0xf88bb8a8724c81ec, 0x1b39896a51a8749b},
		1234567: {6457827717110365317, 3203168211198807973, 9817491932198370423, 4593380528125082431, 16408922859458223821},
	}
	for seed, row := range published {
		for n, want := range row {
			if got := gen.Mix(seed, uint64(n)); got != want {
				t.Errorf("Mix(%d, %d) is %#x and not %#x", seed, n, got, want)
			}
		}
	}
}

func TestMixGoesRoundTheEnd(t *testing.T) {
	for _, c := range []struct{ seed, n, want uint64 }{
		{0, math.MaxUint64, 0},
		{5, math.MaxUint64, 0xb6bf613dbebb45dc},
		{math.MaxUint64, math.MaxUint64, 0xb4d055fcf2cbbd7b},
		{math.MaxUint64, 0, 0xe4d971771b652c20},
		{0x61c8864680b583eb, 0, 0}, // the seed and the factor together are 2^64
		{1, 100000, 0x77ba1509fa06275b},
	} {
		if got := gen.Mix(c.seed, c.n); got != c.want {
			t.Errorf("Mix(%#x, %#x) is %#x and not %#x", c.seed, c.n, got, c.want)
		}
	}
}

// letter tells a cell.
func letter(i api.Item) string {
	switch i {
	case api.Air:
		return "."
	case api.Dirt:
		return "d"
	case api.Stone:
		return "s"
	case api.Ore:
		return "o"
	case api.Wood:
		return "w"
	case api.Leaf:
		return "l"
	}
	return "?"
}

// picture tells eight cells a row, from the cell x, y on.
func picture(seed uint64, x, y, rows int) string {
	var out strings.Builder
	for row := range rows {
		for col := range 8 {
			out.WriteString(letter(gen.Cell(seed, x+col, y+row)))
		}
		out.WriteString("\n")
	}
	return out.String()
}

func TestPictures(t *testing.T) {
	for _, c := range []struct {
		seed uint64
		x, y int
		want string
	}{
		{1, 0, 64, `
........
........
l.wl....
dddddddd
dddddddd
dddddddd
ssossoss
ssosssso
ssssssss
ssssssss
ssssssos
ososssso
`},
		{200, 0, 45, `
........
...ww..w
dddddddd
dddddddd
dddddddd
ssssooss
ssososss
`},
		{0, 8, 52, `
........
dddddddd
dddddddd
dddddddd
osssssss
ssssosss
sssssoss
ssssssso
ossossss
ssssssos
ssssssss
oosooooo
`},
	} {
		want := strings.TrimPrefix(c.want, "\n")
		if got := picture(c.seed, c.x, c.y, strings.Count(want, "\n")); got != want {
			t.Errorf("from the cell %d %d of %d on there are\n%sand not\n%s", c.x, c.y, c.seed, got, want)
		}
	}
}

func TestWholeWorlds(t *testing.T) {
	// The sums were worked out by a program of another language, which follows the chapter's words.
	for seed, want := range map[uint64]uint32{0: 0x5c85219f, 1: 0x7bd6a6dc, 5: 0x94349457, 200: 0x89b8944c, math.MaxUint64: 0x264ed8cd} {
		var cells []byte
		for y := range 128 {
			for x := range 128 {
				cells = append(cells, byte(gen.Cell(seed, x, y)))
			}
		}
		if got := crc32.ChecksumIEEE(cells); got != want {
			t.Errorf("the cells of %d have the sum %#x and not %#x", seed, got, want)
		}
	}
}

// height is where the ground begins at x, as the cells show it.
func height(seed uint64, x int) int {
	y := 0
	for y < 128 && gen.Cell(seed, x, y) != api.Dirt {
		y++
	}
	return y
}

func TestHeights(t *testing.T) {
	for seed, want := range map[uint64][]int{
		0:              {45, 53, 60, 48, 68, 70, 65, 48, 58, 56, 52, 46, 47, 55, 56, 52},
		1:              {67, 52, 62, 68, 57, 42, 64, 51, 58, 45, 54, 56, 49, 40, 60, 65},
		5:              {54, 55, 62, 71, 71, 42, 58, 62, 71, 49, 46, 68, 58, 44, 51, 45},
		math.MaxUint64: {66, 56, 46, 62, 41, 43, 43, 56, 47, 42, 58, 51, 68, 45, 60, 45},
	} {
		for x := range 128 {
			if got := height(seed, x); got != want[x/8] {
				t.Errorf("at x %d of %d the ground begins at %d and not at %d", x, seed, got, want[x/8])
			}
		}
	}
}

func TestExamples(t *testing.T) {
	for _, seed := range append(seeds(), edgeNumbers()...) {
		for x := range 128 {
			if got := gen.Cell(seed, x, 0); got != api.Air {
				t.Errorf("the cell %d 0 of %d is %d", x, seed, got)
			}
			if got := gen.Cell(seed, x, 127); got != api.Stone && got != api.Ore {
				t.Errorf("the cell %d 127 of %d is %d", x, seed, got)
			}
			if got := gen.Cell(seed, 128, x); got != api.Air {
				t.Errorf("the cell 128 %d of %d is %d", x, seed, got)
			}
		}
	}
}

func TestOutsideIsAir(t *testing.T) {
	for _, seed := range seeds() {
		for _, x := range edges() {
			for _, y := range edges() {
				inside := x >= 0 && x < 128 && y >= 0 && y < 128
				if got := gen.Cell(seed, x, y); !inside && got != api.Air {
					t.Errorf("the cell %d %d of %d is %d", x, y, seed, got)
				}
			}
		}
	}
}

// checkChunk holds a chunk against the cells, and asks whether it is right.
func checkChunk(t *testing.T, seed uint64, x, y int) {
	t.Helper()
	c := gen.Chunk(seed, x, y)
	if len(c.Heaps) != 0 || len(c.Boxes) != 0 {
		t.Errorf("the chunk %d %d of %d has %d heaps and %d boxes", x, y, seed, len(c.Heaps), len(c.Boxes))
	}
	if x < 0 || x > 15 || y < 0 || y > 15 {
		if c.X != 0 || c.Y != 0 || len(c.Cells) != 0 {
			t.Errorf("the chunk %d %d of %d is that at %d %d with %d cells", x, y, seed, c.X, c.Y, len(c.Cells))
		}
		return
	}
	var want []api.Item
	for at := range 64 {
		want = append(want, gen.Cell(seed, x*8+at%8, y*8+at/8))
	}
	if c.X != x || c.Y != y || !slices.Equal(c.Cells, want) {
		t.Errorf("the chunk %d %d of %d is that at %d %d with the cells %d and not %d", x, y, seed, c.X, c.Y, c.Cells, want)
	}
	if !chunk.Right(c) {
		t.Errorf("the chunk %d %d of %d is not right", x, y, seed)
	}
}

func TestChunks(t *testing.T) {
	for _, seed := range seeds() {
		for y := range 16 {
			for x := range 16 {
				checkChunk(t, seed, x, y)
			}
		}
	}
}

func TestChunksOutside(t *testing.T) {
	for _, seed := range seeds() {
		for _, x := range edges() {
			for _, y := range edges() {
				checkChunk(t, seed, x, y)
			}
		}
	}
}

func TestChunksAreNew(t *testing.T) {
	const seed = 5
	for y := range 16 {
		first, second := gen.Chunk(seed, 3, y), gen.Chunk(seed, 3, y)
		want := slices.Clone(first.Cells)
		spare := first.Cells[:cap(first.Cells)]
		for at := range spare {
			spare[at] = api.Pick
		}
		if !slices.Equal(second.Cells, want) || !slices.Equal(gen.Chunk(seed, 3, y).Cells, want) {
			t.Errorf("two answers of the chunk 3 %d share memory", y)
		}
	}
}

// worldBytes are the bytes of all chunks of a world.
func worldBytes(seed uint64) []byte {
	var out []byte
	for at := range 256 {
		b, _ := chunk.Bytes(gen.Chunk(seed, at%16, at/16))
		out = append(out, b...)
	}
	return out
}

func TestTheSameWheneverItIsAsked(t *testing.T) {
	want := map[uint64][]byte{}
	for _, seed := range seeds() {
		want[seed] = worldBytes(seed)
	}
	var all sync.WaitGroup
	for from := range 8 {
		all.Go(func() {
			for at := range seeds() {
				seed := seeds()[(from+at)%len(seeds())]
				if !bytes.Equal(worldBytes(seed), want[seed]) {
					t.Errorf("the world of %d is another one", seed)
				}
			}
		})
	}
	all.Wait()
}
