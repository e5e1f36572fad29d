package pages_test

import (
	"slices"
	"strings"
	"testing"
	"unsafe"

	"homestead/api"
	"homestead/disk"
	"homestead/pages"
)

// held is a store of a commit with two keys, one of which is put anew.
func held(t *testing.T) (*disk.Disk, *pages.Store) {
	t.Helper()
	d := room(t, 1000)
	s := open(t, d, 0)
	put(t, s, "a", "xyz", "b", "uv")
	commit(t, s, 1)
	put(t, s, "a", "q")
	return d, s
}

// noStores are stores that Open did not answer.
func noStores(t *testing.T) map[string]*pages.Store {
	t.Helper()
	_, made := held(t)
	copied := *made
	_, emptied := held(t)
	*emptied = pages.Store{}
	_, other := held(t)
	*other = *made
	d, over := held(t)
	d.Arm(0)
	if _, err := over.Commit(); err != api.ErrDown {
		t.Errorf("Commit: %d", err)
	}
	ended := *over
	return map[string]*pages.Store{
		"nil": nil, "of zeros": {}, "new": new(pages.Store), "copied": &copied, "emptied": emptied, "overwritten": other, "copied when over": &ended,
	}
}

// R5: no store answers zeros, and ErrNil ahead of every other error.
func TestNoStore(t *testing.T) {
	for what, s := range noStores(t) {
		for range 2 {
			want(t, what+": Put", s.Put("a", []byte("x")), api.ErrNil)
			want(t, what+": Put: key", s.Put("", make([]byte, api.MaxBlob+1)), api.ErrNil)
			want(t, what+": Drop", s.Drop("a"), api.ErrNil)
			want(t, what+": Drop: key", s.Drop(""), api.ErrNil)
			if number, err := s.Commit(); number != 0 || err != api.ErrNil {
				t.Errorf("%s: Commit: %d, %d", what, number, err)
			}
			if names, err := s.Free(); len(names) > 0 || err != api.ErrNil {
				t.Errorf("%s: Free: %q, %d", what, names, err)
			}
			none(t, s, "a", "b", "")
			if len(s.Keys()) > 0 || s.Number() != 0 || s.Over() {
				t.Errorf("%s: Keys %q, Number %d, Over %t", what, s.Keys(), s.Number(), s.Over())
			}
		}
	}
}

// R5: what is done to a copy is not done to the store.
func TestCopyLeavesTheStore(t *testing.T) {
	d, s := held(t)
	copied := *s
	want(t, "Put", copied.Put("b", nil), api.ErrNil)
	want(t, "Drop", copied.Drop("a"), api.ErrNil)
	copied.Commit()
	copied.Free()
	tells(t, s, 1, "a", "q", "b", "uv")
	lists(t, d, "c1", "i1")
	commit(t, s, 2)
	has(t, d, "c2", "q")
}

// spoil writes over all bytes of b, and its spare room.
func spoil(b []byte) {
	b = b[:cap(b)]
	for i := range b {
		b[i] = '#'
	}
}

// R3: a blob that is handed in is neither kept nor changed, its spare room neither.
func TestPutKeepsNothing(t *testing.T) {
	d := room(t, 1000)
	s := open(t, d, 0)
	whole := []byte("abcdefgh")
	want(t, "Put", s.Put("a", whole[2:4]), api.OK)
	want(t, "Put", s.Put("b", whole[:0]), api.OK)
	want(t, "Put", s.Put("c", nil), api.OK)
	commit(t, s, 1)
	want(t, "Put", s.Put("b", whole[:3]), api.OK)
	if string(whole) != "abcdefgh" {
		t.Errorf("handed in bytes became %q", whole)
	}
	spoil(whole)
	tells(t, s, 1, "a", "cd", "b", "abc", "c", "")
	commit(t, s, 2)
	has(t, d, "c1", "cd")
	has(t, d, "c2", "abc")
}

// R3: no key that is handed in is kept, be there one of it or not.
func TestKeysAreNotKept(t *testing.T) {
	d := lay(t, files{"c1": "x", "i1": index(1, spot{"first", 1, 0, 1})})
	s := open(t, d, 1)
	for _, text := range []string{"first", "second", "second"} {
		key := []byte(text)
		want(t, "Put", s.Put(unsafe.String(&key[0], len(key)), []byte("y")), api.OK)
		spoil(key)
		key = []byte("third")
		want(t, "Drop", s.Drop(unsafe.String(&key[0], len(key))), api.OK)
		spoil(key)
	}
	commit(t, s, 2)
	for range 2 {
		tells(t, s, 2, "first", "y", "second", "y")
		s = open(t, d, 2)
	}
}

// R3: blobs share no memory with one another, nor with the disk, nor with the store, whether they were put, committed or opened.
func TestBlobsAreNew(t *testing.T) {
	d := lay(t, files{"c1": "vwxyz", "i1": index(1, spot{"a", 1, 0, 3}, spot{"b", 1, 1, 4}, spot{"c", 1, 3, 0})})
	s := open(t, d, 1)
	other := open(t, d, 1)
	put(t, s, "d", "put")
	for number := 1; number < 4; number++ {
		pairs := []string{"a", "vwx", "b", "wxyz", "c", "", "d", "put"}
		var got [][]byte
		for i := 0; i < len(pairs); i += 2 {
			b, _ := s.Get(pairs[i])
			got = append(got, b)
		}
		for i, b := range got {
			spoil(b)
			for j := i + 1; j < len(got); j++ {
				if string(got[j]) != pairs[2*j+1] {
					t.Errorf("%s spoilt %s: %q", pairs[2*i], pairs[2*j], got[j])
				}
			}
		}
		tells(t, s, number, pairs...)
		tells(t, other, 1, pairs[:6]...)
		has(t, d, "c1", "vwxyz")
		commit(t, s, number+1)
		if number == 2 {
			s = open(t, d, number+1)
		}
	}
}

// R3: names and keys are told in new lists each time.
func TestListsAreNew(t *testing.T) {
	_, s := held(t)
	first, second := s.Keys(), s.Keys()
	clear(first[:cap(first)])
	if wanted := []string{"a", "b"}; !slices.Equal(second, wanted) || !slices.Equal(s.Keys(), wanted) {
		t.Errorf("Keys: %q, %q", second, s.Keys())
	}
	commit(t, s, 2)
	drop(t, s, "b")
	commit(t, s, 3)
	names, err := s.Free()
	if wanted := []string{"c1", "i1", "i2"}; !slices.Equal(names, wanted) || err != api.OK {
		t.Errorf("Free: %q, %d", names, err)
	}
	clear(names[:cap(names)])
	free(t, s)
	tells(t, s, 3, "a", "q")
}

// R3: a store that Open answers goes on without what the disk does behind it.
func TestStoreKeepsItsBlobs(t *testing.T) {
	d, s := held(t)
	s = open(t, d, 1)
	want(t, "Cut", d.Cut("c1", 0), api.OK)
	want(t, "Append", d.Append("c1", []byte(strings.Repeat("!", 10))), api.OK)
	tells(t, s, 1, "a", "xyz", "b", "uv")
	want(t, "Remove", d.Remove("c1"), api.OK)
	tells(t, s, 1, "a", "xyz", "b", "uv")
}
