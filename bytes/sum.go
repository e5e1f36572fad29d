package bytes

import (
	"slices"

	"homestead/api"
)

// sealBytes is how many bytes a seal adds.
const sealBytes = 4

// fourSteps is what four steps of the division make of each number below 16, its lowest bit being the first one.
var fourSteps = [16]uint32{
	0x00000000, 0x1db71064, 0x3b6e20c8, 0x26d930ac,
	0x76dc4190, 0x6b6b51f4, 0x4db26158, 0x5005713c,
	0xedb88320, 0xf00f9344, 0xd6d6a3e8, 0xcb61b38c,
	0x9b64c2b0, 0x86d3d2d4, 0xa00ae278, 0xbdbdf21c,
}

// Crc answers the sum of b (CRC-32).
func Crc(b []byte) uint32 {
	rest := ^uint32(0)
	for _, x := range b {
		rest ^= uint32(x)
		rest = rest>>4 ^ fourSteps[rest%16]
		rest = rest>>4 ^ fourSteps[rest%16]
	}
	return ^rest
}

// Seal answers b with its sum behind it, the highest byte first.
func Seal(b []byte) []byte {
	sum := Crc(b)
	return slices.Concat(b, []byte{byte(sum >> 24), byte(sum >> 16), byte(sum >> 8), byte(sum)})
}

// Unseal answers what Seal was handed, if b is what it answered.
func Unseal(b []byte) ([]byte, api.Errno) {
	if len(b) < sealBytes {
		return nil, api.ErrShort
	}
	body := b[:len(b)-sealBytes]
	if sealed := b[len(b)-sealBytes:]; Crc(body) != number(sealed) {
		return nil, api.ErrSum
	}
	return fresh(body), api.OK
}

// number is what bytes say, the highest one first.
func number(b []byte) uint32 {
	var n uint32
	for _, x := range b {
		n = n<<8 | uint32(x)
	}
	return n
}
