package bytes_test

import (
	"hash/crc32"
	"slices"
	"testing"

	"homestead/api"
	"homestead/bytes"
)

// slowSum follows the chapter's words bit by bit.
func slowSum(b []byte) uint32 {
	const divisor = "100000100110000010001110110110111"
	var row []byte
	for _, x := range b {
		for bit := range 8 {
			row = append(row, x>>bit&1)
		}
	}
	row = append(row, make([]byte, 32)...)
	for i := range 32 {
		row[i] ^= 1
	}
	for ; len(row) >= 33; row = row[1:] {
		for i := 0; row[0] == 1 && i < 33; i++ {
			// The first one is turned last, so that it goes on telling whether to turn.
			if k := 32 - i; divisor[k] == '1' {
				row[k] ^= 1
			}
		}
	}
	var sum uint32
	for i, bit := range row {
		sum |= uint32(bit^1) << i
	}
	return sum
}

// noise is n bytes that look like none in particular.
func noise(n int) []byte {
	b := make([]byte, n)
	state := uint32(n) + 1
	for i := range b {
		state = state*1664525 + 1013904223
		b[i] = byte(state >> 24)
	}
	return b
}

// P1.1: the sum is the chapter's.
func TestCrc(t *testing.T) {
	for text, want := range map[string]uint32{"": 0, "123456789": 3421780262, "\x00": 0xd202ef8d, "a": 0xe8b7be43} {
		if got := bytes.Crc([]byte(text)); got != want {
			t.Errorf("Crc of %q: %d", text, got)
		}
	}
	for x := range 256 {
		if b := []byte{byte(x)}; bytes.Crc(b) != slowSum(b) {
			t.Errorf("Crc of %v: %d", b, bytes.Crc(b))
		}
	}
	for n := range 130 {
		if b := noise(n); bytes.Crc(b) != slowSum(b) {
			t.Errorf("Crc of %d bytes: %d", n, bytes.Crc(b))
		}
	}
	if b := noise(1 << 20); bytes.Crc(b) != crc32.ChecksumIEEE(b) {
		t.Errorf("Crc of 2^20 bytes: %d", bytes.Crc(b))
	}
}

// P1.1: a seal is the sum in four bytes, the highest one first.
func TestSeal(t *testing.T) {
	for text, want := range map[string]string{"": "\x00\x00\x00\x00", "123456789": "123456789\xcb\xf4\x39\x26"} {
		if got := string(bytes.Seal([]byte(text))); got != want {
			t.Errorf("Seal of %q: %q", text, got)
		}
	}
}

// P1.1, R3: what is sealed lies in memory of its own.
func TestSealOwnsItsMemory(t *testing.T) {
	b, room := roomy("abc")
	before := string(room)
	sealed := bytes.Seal(b)
	sealed[0] = 'X'
	if string(b) != "abc" || string(room) != before {
		t.Errorf("handed in bytes became %q, their room %q", b, room)
	}
}

// P1.3: what was sealed is told.
func TestUnsealReads(t *testing.T) {
	for _, n := range []int{0, 1, 3, 4, 5, 100, 1 << 20} {
		b := noise(n)
		if got, err := bytes.Unseal(bytes.Seal(b)); !slices.Equal(got, b) || err != api.OK {
			t.Errorf("Unseal of %d sealed bytes: %d bytes, %d", n, len(got), err)
		}
	}
}

// P1.3: each error, in the chapter's order, with nothing beside it.
func TestUnsealErrors(t *testing.T) {
	for _, c := range []struct {
		text string
		want api.Errno
	}{
		{"", api.ErrShort},
		{"\x00\x00\x00", api.ErrShort},
		{"abc", api.ErrShort},
		{"\x00\x00\x00\x01", api.ErrSum},
		{"\x01\x00\x00\x00\x00", api.ErrSum},
		{"123456789\x26\x39\xf4\xcb", api.ErrSum},
		{"123456789\xcb\xf4\x39", api.ErrSum},
		{"123456789\xcb\xf4\x39\x26\x00", api.ErrSum},
	} {
		if got, err := bytes.Unseal([]byte(c.text)); len(got) != 0 || err != c.want {
			t.Errorf("Unseal of %q: %q, %d", c.text, got, err)
		}
	}
	if got, err := bytes.Unseal(nil); len(got) != 0 || err != api.ErrShort {
		t.Errorf("Unseal of none: %q, %d", got, err)
	}
}

// P1.3, R3: what is unsealed lies in memory of its own.
func TestUnsealOwnsItsMemory(t *testing.T) {
	sealed := bytes.Seal([]byte("abc"))
	before := string(sealed)
	got, _ := bytes.Unseal(sealed)
	_ = append(got, 'X')
	got[0] = 'Y'
	if string(sealed) != before {
		t.Errorf("handed in bytes became %q", sealed)
	}
}

// P1.4: with their own sum behind them, the lowest byte first, all bytes have one sum.
func TestOwnSumBehindMakesOneSum(t *testing.T) {
	for n := range 70 {
		b := noise(n)
		sum := bytes.Crc(b)
		b = append(b, byte(sum), byte(sum>>8), byte(sum>>16), byte(sum>>24))
		if got := bytes.Crc(b); got != 558161692 {
			t.Errorf("of %d bytes: %d", n, got)
		}
	}
}

// P1.4: of what is sealed, one bit or two cannot be turned without an ErrSum.
func TestTurnedBitsAreSeen(t *testing.T) {
	sealed := bytes.Seal(noise(20))
	for i := range 8 * len(sealed) {
		for j := i; j < 8*len(sealed); j++ {
			checkTurned(t, sealed, i, j)
		}
	}
}

// P1.4: likewise, at the most bytes that the chapter names.
func TestTurnedBitsOfManyBytesAreSeen(t *testing.T) {
	sealed := bytes.Seal(noise(1 << 20))
	last := 8*len(sealed) - 1
	for _, pair := range [][2]int{
		{0, 0}, {0, 1}, {0, 31}, {0, 32}, {0, last}, {last, last}, {last - 32, last},
		{1 << 22, 1 << 22}, {1 << 22, 1<<22 + 1}, {7, 1<<23 - 1}, {3, 1 << 20},
	} {
		checkTurned(t, sealed, pair[0], pair[1])
	}
}

// checkTurned turns the bits i and j (one alone, if they are the same), asks, and turns them back.
func checkTurned(t *testing.T, sealed []byte, i, j int) {
	t.Helper()
	turn := func() {
		sealed[i/8] ^= 1 << (i % 8)
		if i != j {
			sealed[j/8] ^= 1 << (j % 8)
		}
	}
	turn()
	if got, err := bytes.Unseal(sealed); len(got) != 0 || err != api.ErrSum {
		t.Errorf("bits %d and %d turned: %d bytes, %d", i, j, len(got), err)
	}
	turn()
}
