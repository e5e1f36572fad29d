// Package bytes is layer 1: numbers and bytes as bytes, and sums of them (shared/doc/01-bytes.md).
package bytes

import (
	"slices"

	"homestead/api"
)

const (
	more    = 128 // a byte from here on says that its varint goes on
	longest = 10  // bytes of a varint, at most
)

// Uint answers out with the varint of n behind it; like append, it may use out's spare room.
func Uint(out []byte, n uint64) []byte {
	for n >= more {
		out = append(out, byte(more+n%more))
		n /= more
	}
	return append(out, byte(n))
}

// Int answers out with the signed varint of n behind it; like append, it may use out's spare room.
func Int(out []byte, n int64) []byte {
	return Uint(out, place(n))
}

// Blob answers out with the blob of b behind it.
func Blob(out, b []byte) []byte {
	// b may lie in out's spare room: what stands there must not be written over.
	return slices.Concat(out, Uint(nil, uint64(len(b))), b)
}

// GetUint reads the varint at a place of b, and tells the place behind it.
func GetUint(b []byte, at int) (uint64, int, api.Errno) {
	if at < 0 || at > len(b) {
		return 0, 0, api.ErrArg
	}
	ahead := b[at:min(len(b), at+longest)]
	last := slices.IndexFunc(ahead, func(x byte) bool { return x < more })
	if last < 0 && len(ahead) < longest {
		return 0, 0, api.ErrShort
	}
	if last < 0 || !shortest(ahead[:last+1]) {
		return 0, 0, api.ErrBytes
	}
	return value(ahead[:last+1]), at + last + 1, api.OK
}

// GetInt reads the signed varint at a place of b, and tells the place behind it.
func GetInt(b []byte, at int) (int64, int, api.Errno) {
	n, next, err := GetUint(b, at)
	if err != api.OK {
		return 0, 0, err
	}
	return placed(n), next, api.OK
}

// GetBlob reads the blob, of at most most bytes, at a place of b, and tells the place behind it.
func GetBlob(b []byte, at, most int) ([]byte, int, api.Errno) {
	n, from, err := GetUint(b, at)
	if err != api.OK {
		return nil, 0, err
	}
	if most < 0 || n > uint64(most) {
		return nil, 0, api.ErrLong
	}
	if n > uint64(len(b)-from) {
		return nil, 0, api.ErrShort
	}
	next := from + int(n)
	return fresh(b[from:next]), next, api.OK
}

// shortest tells whether a varint's bytes (the last one alone is below more) are the one form of a number below 2^64.
func shortest(b []byte) bool {
	last := b[len(b)-1]
	if len(b) == longest {
		// The nine bytes ahead hold 63 bits, so that one is left.
		return last == 1
	}
	return last > 0 || len(b) == 1
}

// value is the number that a varint's bytes say.
func value(b []byte) uint64 {
	var n uint64
	for i := len(b) - 1; i >= 0; i-- {
		n = n*more + uint64(b[i]%more)
	}
	return n
}

// place is where n stands in the order 0, -1, 1, -2, 2 ..
func place(n int64) uint64 {
	if n < 0 {
		// -1 - n does not run over, even at the least number, as -n would.
		return 2*uint64(-1-n) + 1
	}
	return 2 * uint64(n)
}

// placed is the number that stands at a place of the order 0, -1, 1, -2, 2 ..
func placed(at uint64) int64 {
	half := int64(at / 2)
	if at%2 == 1 {
		return -1 - half
	}
	return half
}

// fresh is b in memory of its own, with nothing of b's memory kept even if it is empty.
func fresh(b []byte) []byte {
	return append([]byte(nil), b...)
}
