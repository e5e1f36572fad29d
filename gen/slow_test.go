package gen_test

import (
	"math"
	"math/big"
	"math/rand"
	"testing"

	"homestead/api"
	"homestead/gen"
)

// The slow calls follow the chapter's words one by one, by numbers without an end that are cut to 64 bits.

// bigOf is n as a number without an end.
func bigOf(n uint64) *big.Int {
	return new(big.Int).SetUint64(n)
}

// cut is what n leaves in 64 bits.
func cut(n *big.Int) *big.Int {
	return n.Mod(n, new(big.Int).Lsh(big.NewInt(1), 64))
}

// stir is x exclusive-or itself moved down by some bits.
func stir(x *big.Int, bits uint) *big.Int {
	return new(big.Int).Xor(x, new(big.Int).Rsh(x, bits))
}

// times is x times factor, round the end.
func times(x *big.Int, factor uint64) *big.Int {
	return cut(new(big.Int).Mul(x, bigOf(factor)))
}

func slowMix(seed, n uint64) uint64 {
	x := times(new(big.Int).Add(bigOf(n), big.NewInt(1)), 0x9e3779b97f4a7c15)
	x = cut(x.Add(x, bigOf(seed)))
	x = times(stir(x, 30), 0xbf58476d1ce4e5b9)
	x = times(stir(x, 27), 0x94d049bb133111eb)
	return stir(x, 31).Uint64()
}

// slowHeight is the height of the cells of an x from 0 to 127.
func slowHeight(seed uint64, x int) int {
	return 40 + int(slowMix(seed, 100000+uint64(x/8))%32)
}

func slowCell(seed uint64, x, y int) api.Item {
	if x < 0 || x > 127 || y < 0 || y > 127 {
		return api.Air
	}
	m, h := slowMix(seed, uint64(y*128+x)), slowHeight(seed, x)
	if y < h {
		if y == h-1 && m%11 == 0 {
			return api.Leaf
		}
		if y == h-1 && m%11 == 1 {
			return api.Wood
		}
		return api.Air
	}
	if y == h || y == h+1 || y == h+2 {
		return api.Dirt
	}
	if m%7 == 0 {
		return api.Ore
	}
	return api.Stone
}

// edgeNumbers are numbers of 64 bits at whose like something may go round the end.
func edgeNumbers() []uint64 {
	return []uint64{
		0, 1, 2, 127, 128, 16383, 100000, 100015, math.MaxUint32, 1 << 32, math.MaxInt64, 1 << 63,
		0x9e3779b97f4a7c15, 0x61c8864680b583eb, math.MaxUint64 - 1, math.MaxUint64,
	}
}

func TestMixFollowsTheWords(t *testing.T) {
	check := func(seed, n uint64) {
		if got, want := gen.Mix(seed, n), slowMix(seed, n); got != want {
			t.Fatalf("Mix(%#x, %#x) is %#x and not %#x", seed, n, got, want)
		}
	}
	for _, seed := range edgeNumbers() {
		for _, n := range edgeNumbers() {
			check(seed, n)
		}
	}
	random := rand.New(rand.NewSource(1))
	for range 50000 {
		check(random.Uint64(), random.Uint64()>>random.Intn(64))
	}
}

func TestCellFollowsTheWords(t *testing.T) {
	for _, seed := range []uint64{0, 1, 5, 77, 1 << 63, math.MaxUint64} {
		for y := -9; y < 140; y++ {
			for x := -9; x < 140; x++ {
				if got, want := gen.Cell(seed, x, y), slowCell(seed, x, y); got != want {
					t.Fatalf("the cell %d %d of %#x is %d and not %d", x, y, seed, got, want)
				}
			}
		}
	}
	random := rand.New(rand.NewSource(2))
	for range 20000 {
		seed, x, y := random.Uint64(), random.Intn(128), random.Intn(128)
		if got, want := gen.Cell(seed, x, y), slowCell(seed, x, y); got != want {
			t.Fatalf("the cell %d %d of %#x is %d and not %d", x, y, seed, got, want)
		}
	}
}

func FuzzGen(f *testing.F) {
	f.Add(uint64(0), uint64(0), 0, 0)
	f.Add(uint64(math.MaxUint64), uint64(math.MaxUint64), 127, 73)
	f.Add(uint64(5), uint64(100003), 128, -1)
	f.Fuzz(func(t *testing.T, seed, n uint64, x, y int) {
		if gen.Mix(seed, n) != slowMix(seed, n) {
			t.Errorf("Mix(%#x, %#x) is %#x", seed, n, gen.Mix(seed, n))
		}
		if gen.Cell(seed, x, y) != slowCell(seed, x, y) {
			t.Errorf("the cell %d %d of %#x is %d", x, y, seed, gen.Cell(seed, x, y))
		}
		checkChunk(t, seed, x, y)
		checkChunk(t, seed, x&15, y&15)
	})
}
