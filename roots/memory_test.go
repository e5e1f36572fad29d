package roots_test

import (
	"testing"

	"homestead/api"
	"homestead/roots"
)

// spoil writes over all bytes of b, and its spare room.
func spoil(b []byte) {
	b = b[:cap(b)]
	for i := range b {
		b[i] = '#'
	}
}

// R3: a blob that is handed in is neither changed nor kept, its spare room neither; what Bytes answers is new.
func TestBytesKeepsNothing(t *testing.T) {
	whole := []byte("abcdefgh")
	r := api.Root{Serial: 1, Tick: 5, Commit: 2, Blob: whole[2:4]}
	first, _ := roots.Bytes(r)
	second, _ := roots.Bytes(r)
	if string(whole) != "abcdefgh" {
		t.Errorf("handed in bytes became %q", whole)
	}
	spoil(first)
	if string(whole) != "abcdefgh" || string(second) != text(root(1, 5, 2, "cd")) {
		t.Errorf("spoilt: %q, %q", whole, second)
	}
	spoil(whole)
	if string(second) != text(root(1, 5, 2, "cd")) {
		t.Errorf("spoilt: %q", second)
	}
}

// R3: Parse neither changes nor keeps its bytes; blobs that it answers are new, with nothing behind them.
func TestParseKeepsNothing(t *testing.T) {
	for _, blob := range []string{"", "blob"} {
		r := root(1, 5, 2, blob)
		whole := []byte(text(r) + "more")
		b := whole[:len(whole)-4]
		first, _ := roots.Parse(b)
		second, _ := roots.Parse(b)
		spoil(first.Blob)
		if string(whole) != text(r)+"more" || !same(second, r) {
			t.Errorf("spoilt: %q, %s", whole, show(second))
		}
		spoil(whole)
		if !same(second, r) {
			t.Errorf("spoilt: %s", show(second))
		}
	}
}

// R3: Write neither changes nor keeps a blob, and answers one in memory of its own.
func TestWriteKeepsNothing(t *testing.T) {
	for _, from := range []int{2, 4} {
		d := room(t, 1000)
		whole := []byte("abcdefgh")
		wanted := root(1, 5, 2, "abcdefgh"[from:4])
		told, err := roots.Write(d, api.Root{Tick: 5, Commit: 2, Blob: whole[from:4]})
		if !same(told, wanted) || err != api.OK || string(whole) != "abcdefgh" {
			t.Errorf("%s, %d; handed in bytes became %q", show(told), err, whole)
		}
		spoil(told.Blob)
		if string(whole) != "abcdefgh" {
			t.Errorf("handed in bytes became %q", whole)
		}
		counts(t, d, wanted)
		told, _ = roots.Write(d, api.Root{Tick: 5, Commit: 2, Blob: whole[from:4]})
		spoil(whole)
		wanted.Serial = 2
		if !same(told, wanted) {
			t.Errorf("spoilt: %s", show(told))
		}
		counts(t, d, wanted)
	}
}

// R3: what Read answers shares no memory with the disk, nor with another answer.
func TestReadsAreNew(t *testing.T) {
	d := room(t, 1000)
	write(t, d, root(0, 5, 2, "blob"), 1)
	first, _, _ := roots.Read(d)
	second, _, _ := roots.Read(d)
	spoil(first.Blob)
	if !same(second, root(1, 5, 2, "blob")) {
		t.Errorf("spoilt: %s", show(second))
	}
	counts(t, d, root(1, 5, 2, "blob"))
}

// R3: a root that Write refuses stays as it was.
func TestRefusedStaysAsItWas(t *testing.T) {
	d := room(t, 10)
	whole := []byte("abcdefgh")
	for _, r := range []api.Root{{Tick: -1, Blob: whole[:3]}, {Blob: whole[:3]}} {
		if _, err := roots.Write(d, r); err == api.OK || string(whole) != "abcdefgh" || string(r.Blob) != "abc" {
			t.Errorf("%d, %q", err, whole)
		}
	}
}
