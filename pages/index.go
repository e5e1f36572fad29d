package pages

import (
	"maps"
	"slices"

	"homestead/api"
	"homestead/bytes"
)

const magic = "HSI1" // at the begin of an index

// entry is what an index says of a key.
type entry struct {
	key               string
	pack, place, size int
}

// index is what the file of a commit of that number has.
func index(number int, keys map[string]blob) []byte {
	out := bytes.Uint([]byte(magic), uint64(number))
	out = bytes.Uint(out, uint64(len(keys)))
	for _, key := range slices.Sorted(maps.Keys(keys)) {
		b := keys[key]
		out = append(out, bytes.Blob(nil, []byte(key))...)
		for _, n := range []int{b.pack, b.place, len(b.bytes)} {
			out = bytes.Uint(out, uint64(n))
		}
	}
	return bytes.Seal(out)
}

// parse reads the index of a commit of that number; it tells whether b is one, as far as that hangs on no pack.
func parse(b []byte, number int) ([]entry, bool) {
	body, err := bytes.Unseal(b)
	if err != api.OK || len(body) < len(magic) || string(body[:len(magic)]) != magic {
		return nil, false
	}
	r := reader{rest: body[len(magic):]}
	r.number(number, number)
	count := r.number(0, api.MaxKeys)
	var entries []entry
	for range count {
		e := r.entry(number)
		rises := len(entries) == 0 || entries[len(entries)-1].key < e.key
		if r.failed || !rises {
			return nil, false
		}
		entries = append(entries, e)
	}
	return entries, !r.failed && len(r.rest) == 0
}

// reader takes numbers and keys from the begin of bytes, and remembers whether one was none.
type reader struct {
	rest   []byte
	failed bool
}

// number takes one, from least to most; behind a failure it answers 0.
func (r *reader) number(least, most int) int {
	n, next, err := bytes.GetUint(r.rest, 0)
	if r.failed || err != api.OK || n < uint64(least) || n > uint64(most) {
		r.failed = true
		return 0
	}
	r.rest = r.rest[next:]
	return int(n)
}

// key takes one; behind a failure it answers none.
func (r *reader) key() string {
	b, next, err := bytes.GetBlob(r.rest, 0, api.MaxKey)
	if r.failed || err != api.OK || !isKey(string(b)) {
		r.failed = true
		return ""
	}
	r.rest = r.rest[next:]
	return string(b)
}

// entry takes what an index of that number says of a key.
func (r *reader) entry(number int) entry {
	// No file has more than MaxDisk bytes.
	return entry{key: r.key(), pack: r.number(1, number), place: r.number(0, api.MaxDisk), size: r.number(0, api.MaxBlob)}
}
