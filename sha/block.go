package sha

import "math/bits"

const (
	blockWords = 16
	steps      = 64 // of a block that is worked in, a rolled out word each
	seatCount  = 8
)

// The seats, in their order.
const (
	seatA = iota
	seatB
	seatC
	seatD
	seatE
	seatF
	seatG
	seatH
)

// cubeWords are, of the first 64 primes, the first 32 bits behind the point of the cube roots.
var cubeWords = [steps]uint32{
	0x428a2f98, 0x71374491, 0xb5c0fbcf, 0xe9b5dba5, 0x3956c25b, 0x59f111f1, 0x923f82a4, 0xab1c5ed5,
	0xd807aa98, 0x12835b01, 0x243185be, 0x550c7dc3, 0x72be5d74, 0x80deb1fe, 0x9bdc06a7, 0xc19bf174,
	0xe49b69c1, 0xefbe4786, 0x0fc19dc6, 0x240ca1cc, 0x2de92c6f, 0x4a7484aa, 0x5cb0a9dc, 0x76f988da,
	0x983e5152, 0xa831c66d, 0xb00327c8, 0xbf597fc7, 0xc6e00bf3, 0xd5a79147, 0x06ca6351, 0x14292967,
	0x27b70a85, 0x2e1b2138, 0x4d2c6dfc, 0x53380d13, 0x650a7354, 0x766a0abb, 0x81c2c92e, 0x92722c85,
	0xa2bfe8a1, 0xa81a664b, 0xc24b8b70, 0xc76c51a3, 0xd192e819, 0xd6990624, 0xf40e3585, 0x106aa070,
	0x19a4c116, 0x1e376c08, 0x2748774c, 0x34b0bcb5, 0x391c0cb3, 0x4ed8aa4a, 0x5b9cca4f, 0x682e6ff3,
	0x748f82ee, 0x78a5636f, 0x84c87814, 0x8cc70208, 0x90befffa, 0xa4506ceb, 0xbef9a3f7, 0xc67178f2,
}

// seatsAtFirst are, of the first eight primes, the first 32 bits behind the point of the square roots.
func seatsAtFirst() [seatCount]uint32 {
	return [seatCount]uint32{
		0x6a09e667, 0xbb67ae85, 0x3c6ef372, 0xa54ff53a, 0x510e527f, 0x9b05688c, 0x1f83d9ab, 0x5be0cd19,
	}
}

// workIn answers the seats as they are when a block has been worked in.
func workIn(seats [seatCount]uint32, block []byte) [seatCount]uint32 {
	words := rollOut(block)
	row := seats
	for t := range steps {
		// No word moves on: the names of the seats go round the row instead, one place back each step.
		at := func(seat int) int { return (seat + steps - t) % seatCount }
		a, b, c := row[at(seatA)], row[at(seatB)], row[at(seatC)]
		e, f, g := row[at(seatE)], row[at(seatF)], row[at(seatG)]
		x := row[at(seatH)] + turned(e, 6, 11, 25) + cubeWords[t] + words[t] + (e&f | ^e&g)
		y := turned(a, 2, 13, 22) + (a&b | a&c | b&c)
		// In the next step, d's place is e's, and h's is a's.
		row[at(seatD)] += x
		row[at(seatH)] = x + y
	}
	// The steps are whole rounds, so that each seat is back at its own place.
	for i := range row {
		row[i] += seats[i]
	}
	return row
}

// rollOut is a block's words, and those that follow from them.
func rollOut(block []byte) [steps]uint32 {
	var words [steps]uint32
	for t := range blockWords {
		words[t] = word(block[4*t:])
	}
	for t := blockWords; t < steps; t++ {
		words[t] = words[t-16] + moved(words[t-15], 7, 18, 3) + words[t-7] + moved(words[t-2], 17, 19, 10)
	}
	return words
}

// word is what the first four bytes of b say, the highest one first.
func word(b []byte) uint32 {
	return uint32(b[0])<<24 | uint32(b[1])<<16 | uint32(b[2])<<8 | uint32(b[3])
}

// turned is x turned to the right by i, by j and by k, these held against each other.
func turned(x uint32, i, j, k int) uint32 {
	return bits.RotateLeft32(x, -i) ^ bits.RotateLeft32(x, -j) ^ bits.RotateLeft32(x, -k)
}

// moved is like turned, but that by k x is moved.
func moved(x uint32, i, j, k int) uint32 {
	return bits.RotateLeft32(x, -i) ^ bits.RotateLeft32(x, -j) ^ x>>k
}

// seatBytes are the seats as bytes, the highest one of each first.
func seatBytes(seats [seatCount]uint32) [32]byte {
	var out [32]byte
	for i, seat := range seats {
		out[4*i] = byte(seat >> 24)
		out[4*i+1] = byte(seat >> 16)
		out[4*i+2] = byte(seat >> 8)
		out[4*i+3] = byte(seat)
	}
	return out
}
