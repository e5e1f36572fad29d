package sha_test

import (
	"encoding/binary"
	"math/big"
)

// slowOf follows the chapter's words one by one.
func slowOf(b []byte) [32]byte {
	seats := slowSeats()
	message := slowMessage(b)
	for from := 0; from < len(message); from += 64 {
		seats = slowWorkIn(seats, message[from:from+64])
	}
	var out [32]byte
	for i, seat := range seats {
		binary.BigEndian.PutUint32(out[4*i:], seat)
	}
	return out
}

// slowHmac follows the chapter's words one by one.
func slowHmac(key, b []byte) [32]byte {
	if len(key) > 64 {
		hash := slowOf(key)
		key = hash[:]
	}
	var inner, outer []byte
	for i := range 64 {
		var x byte
		if i < len(key) {
			x = key[i]
		}
		inner, outer = append(inner, x^54), append(outer, x^92)
	}
	hash := slowOf(append(inner, b...))
	return slowOf(append(outer, hash[:]...))
}

// slowMessage tries one nought more each time, until there are whole blocks.
func slowMessage(b []byte) []byte {
	out := append(append([]byte{}, b...), 128)
	for (len(out)+8)%64 != 0 {
		out = append(out, 0)
	}
	return binary.BigEndian.AppendUint64(out, 8*uint64(len(b)))
}

// slowWorkIn moves each seat on.
func slowWorkIn(seats [8]uint32, block []byte) [8]uint32 {
	turn := func(x uint32, by int) uint32 { return x>>by | x<<(32-by) }
	turns := func(x uint32, i, j, k int) uint32 { return turn(x, i) ^ turn(x, j) ^ turn(x, k) }
	moves := func(x uint32, i, j, k int) uint32 { return turn(x, i) ^ turn(x, j) ^ x>>k }
	var w [64]uint32
	for t := range w {
		if t < 16 {
			w[t] = binary.BigEndian.Uint32(block[4*t:])
		} else {
			w[t] = w[t-16] + moves(w[t-15], 7, 18, 3) + w[t-7] + moves(w[t-2], 17, 19, 10)
		}
	}
	a, b, c, d, e, f, g, h := seats[0], seats[1], seats[2], seats[3], seats[4], seats[5], seats[6], seats[7]
	for t, root := range slowRoots() {
		var chosen, most uint32
		for bit := uint32(1); bit != 0; bit <<= 1 {
			if e&bit != 0 {
				chosen |= f & bit
			} else {
				chosen |= g & bit
			}
			have := 0
			for _, seat := range []uint32{a, b, c} {
				if seat&bit != 0 {
					have++
				}
			}
			if have >= 2 {
				most |= bit
			}
		}
		x := h + turns(e, 6, 11, 25) + root + w[t] + chosen
		y := turns(a, 2, 13, 22) + most
		a, b, c, d, e, f, g, h = x+y, a, b, c, d+x, e, f, g
	}
	for i, seat := range []uint32{a, b, c, d, e, f, g, h} {
		seats[i] += seat
	}
	return seats
}

// primes are the first n primes.
func primes(n int) []int64 {
	var out []int64
	for p := int64(2); len(out) < n; p++ {
		if big.NewInt(p).ProbablyPrime(0) {
			out = append(out, p)
		}
	}
	return out
}

// rootWord is the first 32 bits behind the point of p's root of that degree.
func rootWord(p int64, degree int) uint32 {
	power := new(big.Int).Lsh(big.NewInt(p), uint(32*degree))
	root := new(big.Int)
	for bit := 40; bit >= 0; bit-- {
		root.SetBit(root, bit, 1)
		if new(big.Int).Exp(root, big.NewInt(int64(degree)), nil).Cmp(power) > 0 {
			root.SetBit(root, bit, 0)
		}
	}
	return uint32(root.Uint64())
}

var roots [64]uint32

// slowRoots are C0 .. C63, worked out once.
func slowRoots() [64]uint32 {
	if roots[0] == 0 {
		for i, p := range primes(64) {
			roots[i] = rootWord(p, 3)
		}
	}
	return roots
}

// slowSeats are the seats at first.
func slowSeats() [8]uint32 {
	var seats [8]uint32
	for i, p := range primes(8) {
		seats[i] = rootWord(p, 2)
	}
	return seats
}
