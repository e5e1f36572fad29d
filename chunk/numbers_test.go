package chunk_test

import (
	"slices"
	"strconv"
	"testing"

	"homestead/api"
	"homestead/chunk"
)

// bytesOf are c's Bytes, which it has to have.
func bytesOf(t *testing.T, c api.Chunk) []byte {
	t.Helper()
	b, err := chunk.Bytes(c)
	if err != api.OK {
		t.Fatalf("Bytes(%q): error %d", show(c), err)
	}
	return b
}

// refused complains unless Read takes b for no chunk.
func refused(t *testing.T, what string, b []byte) {
	t.Helper()
	if c, err := chunk.Read(b); err != api.ErrChunk || show(c) != show(api.Chunk{}) {
		t.Errorf("%s: Read(%v): %q, error %d", what, b, show(c), err)
	}
}

// The chapter's example: 67 bytes, noughts.
func TestBytesExample(t *testing.T) {
	if b := bytesOf(t, chunkOf(t, "0 0")); !slices.Equal(b, make([]byte, 67)) {
		t.Errorf("%v", b)
	}
	c, err := chunk.Read(make([]byte, 67))
	is(t, "Read", c, err, "0 0", api.OK)
}

// P11.1: X, Y; the cells; how many heaps, of each the cell, the item, N; for each box its slots.
func TestBytes(t *testing.T) {
	cells := make([]byte, 64)
	cells[0], cells[7], cells[8], cells[9], cells[40], cells[41], cells[63] = 1, 10, 4, 9, 9, 7, 9
	heaps := []byte{4, 4, 1, 3, 63, 12, 1, 4, 11, 16, 0, 9, 4}
	first := []byte{1, 16, 0, 0, 12, 1, 0, 0, 0, 0, 0, 0}
	last := []byte{0, 0, 0, 0, 0, 0, 0, 0, 0, 0, 9, 4}
	wanted := slices.Concat([]byte{3, 5}, cells, heaps, first, make([]byte, 12), last)
	if b := bytesOf(t, chunkOf(t, farm)); !slices.Equal(b, wanted) {
		t.Errorf("%v, not %v", b, wanted)
	}
	c, err := chunk.Read(wanted)
	is(t, "Read", c, err, farm, api.OK)
}

// P11.1: a box that is empty has twelve noughts, in the order of the cells.
func TestBytesOfBoxes(t *testing.T) {
	b := bytesOf(t, allChests())
	if len(b) != 2+64+1+64*12 {
		t.Fatalf("%d bytes", len(b))
	}
	for cell := range 64 {
		wanted := make([]byte, 12)
		wanted[cell%6*2], wanted[cell%6*2+1] = 1, byte(1+cell%16)
		if box := b[67+cell*12:][:12]; !slices.Equal(box, wanted) {
			t.Errorf("box %d: %v, not %v", cell, box, wanted)
		}
	}
	if b := bytesOf(t, fullGround()); len(b) != 2+64+1+32*3 || b[66] != 32 {
		t.Errorf("%v", b)
	}
}

// P11.1: ErrChunk, unless c is right.
func TestBytesOfWrong(t *testing.T) {
	for what, c := range wrongs(t) {
		if b, err := chunk.Bytes(c); err != api.ErrChunk || len(b) > 0 {
			t.Errorf("%s: %v, error %d", what, b, err)
		}
	}
}

// P11.4: Read(Bytes(c)) is c.
func TestReadBack(t *testing.T) {
	for _, c := range rights(t) {
		got, err := chunk.Read(bytesOf(t, c))
		if show(got) != show(c) || err != api.OK {
			t.Errorf("%q, error %d; not %q", show(got), err, show(c))
		}
	}
}

// P11.1: ErrChunk of bytes that are cut off, wherever that is, and of bytes with more behind them.
func TestReadCutOff(t *testing.T) {
	for _, c := range rights(t) {
		b := bytesOf(t, c)
		for n := range b {
			refused(t, "cut off", b[:n])
		}
		for _, more := range []byte{0, 1, 9, 127, 128, 255} {
			refused(t, "more behind", append(slices.Clone(b), more))
		}
		refused(t, "twice", slices.Concat(b, b))
	}
	refused(t, "none", nil)
	refused(t, "none", []byte{})
}

// P11.1: there is one form of each chunk: no number has bytes that its varint has not.
func TestReadLongerForms(t *testing.T) {
	for _, c := range rights(t) {
		b := bytesOf(t, c)
		for at, n := range b {
			refused(t, "with a nought behind, at "+strconv.Itoa(at), slices.Concat(b[:at], []byte{128 | n, 0}, b[at+1:]))
			refused(t, "with two noughts behind, at "+strconv.Itoa(at), slices.Concat(b[:at], []byte{128 | n, 128, 0}, b[at+1:]))
		}
	}
}

// P11.1: no number runs over: what is greater by 2^7, 2^8, 2^16, 2^32, 2^62 or 2^63, or is the greatest, is not taken for what it was.
func TestReadGreaterNumbers(t *testing.T) {
	for _, c := range rights(t) {
		b := bytesOf(t, c)
		for at, n := range b {
			for _, more := range [][]byte{
				{128 | n, 1}, {128 | n, 2}, {128 | n, 128, 4}, {128 | n, 128, 128, 128, 16},
				{128 | n, 128, 128, 128, 128, 128, 128, 128, 64}, {128 | n, 128, 128, 128, 128, 128, 128, 128, 128, 1},
				{255, 255, 255, 255, 255, 255, 255, 255, 255, 1}, {128 | n, 128, 128, 128, 128, 128, 128, 128, 128, 2},
				{128 | n, 128, 128, 128, 128, 128, 128, 128, 128, 128, 1},
			} {
				refused(t, "greater at "+strconv.Itoa(at), slices.Concat(b[:at], more, b[at+1:]))
			}
		}
	}
}

// otherBytes are all values of a byte, or, of many bytes, those about which something ends.
func otherBytes(many int) []byte {
	if many > 200 {
		return []byte{0, 1, 2, 4, 5, 9, 10, 12, 13, 16, 17, 127, 128, 129, 255}
	}
	var all []byte
	for x := range 256 {
		all = append(all, byte(x))
	}
	return all
}

// P11.1: Read of bytes with one byte turned, left out or put in answers what the words say.
func TestReadTurned(t *testing.T) {
	for _, c := range rights(t) {
		b := bytesOf(t, c)
		for at := range b {
			sameRead(t, slices.Delete(slices.Clone(b), at, at+1))
			for _, x := range otherBytes(len(b)) {
				turned := slices.Clone(b)
				turned[at] = x
				sameRead(t, turned)
			}
			for _, x := range []byte{0, 1, 9, 12, 128} {
				sameRead(t, slices.Insert(slices.Clone(b), at, x))
			}
		}
	}
}
