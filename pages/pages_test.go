package pages_test

import (
	"encoding/binary"
	"hash/crc32"
	"maps"
	"slices"
	"strconv"
	"strings"
	"testing"

	"homestead/api"
	"homestead/disk"
	"homestead/pages"
)

// maxNumber is the greatest number of a commit.
const maxNumber = 1 << 53

// files are a disk's, by their names.
type files = map[string]string

// room is a new disk with room for so many bytes.
func room(t *testing.T, most int) *disk.Disk {
	t.Helper()
	d, err := disk.New(most)
	if d == nil || err != api.OK {
		t.Fatalf("New(%d): %v, %d", most, d, err)
	}
	return d
}

// want complains unless an error is the one that was wanted.
func want(t *testing.T, what string, got, wanted api.Errno) {
	t.Helper()
	if got != wanted {
		t.Errorf("%s: %d, not %d", what, got, wanted)
	}
}

// open is a store of the commit that d has of that number.
func open(t *testing.T, d *disk.Disk, number int) *pages.Store {
	t.Helper()
	s, err := pages.Open(d, number)
	if s == nil || err != api.OK {
		t.Fatalf("Open of %d: %v, %d", number, s, err)
	}
	return s
}

// put puts keys and their blobs, which are told in turns.
func put(t *testing.T, s *pages.Store, pairs ...string) {
	t.Helper()
	for i := 0; i < len(pairs); i += 2 {
		want(t, "Put "+pairs[i], s.Put(pairs[i], []byte(pairs[i+1])), api.OK)
	}
}

// drop drops keys.
func drop(t *testing.T, s *pages.Store, keys ...string) {
	t.Helper()
	for _, key := range keys {
		want(t, "Drop "+key, s.Drop(key), api.OK)
	}
}

// commit complains unless the next commit has that number.
func commit(t *testing.T, s *pages.Store, wanted int) {
	t.Helper()
	if number, err := s.Commit(); number != wanted || err != api.OK {
		t.Errorf("Commit: %d, %d; not %d", number, err, wanted)
	}
}

// free complains unless Free removes these files.
func free(t *testing.T, s *pages.Store, wanted ...string) {
	t.Helper()
	if names, err := s.Free(); !slices.Equal(names, wanted) || err != api.OK {
		t.Errorf("Free: %q, %d; not %q", names, err, wanted)
	}
}

// holds complains unless a store tells this number, and these keys, by their rise, and their blobs, which are told in turns.
func holds(t *testing.T, s *pages.Store, number int, pairs ...string) {
	t.Helper()
	var keys []string
	for i := 0; i < len(pairs); i += 2 {
		keys = append(keys, pairs[i])
		if b, there := s.Get(pairs[i]); string(b) != pairs[i+1] || !there {
			t.Errorf("Get(%.20q): %.20q, %t; not %.20q", pairs[i], b, there, pairs[i+1])
		}
	}
	if got := s.Keys(); !slices.Equal(got, keys) {
		t.Errorf("Keys: %.100q, not %.100q", got, keys)
	}
	if s.Number() != number {
		t.Errorf("Number %d, not %d", s.Number(), number)
	}
}

// tells is holds of a store that is not over.
func tells(t *testing.T, s *pages.Store, number int, pairs ...string) {
	t.Helper()
	holds(t, s, number, pairs...)
	if s.Over() {
		t.Error("the store is over")
	}
}

// none complains if a store has one of these keys.
func none(t *testing.T, s *pages.Store, keys ...string) {
	t.Helper()
	for _, key := range keys {
		if b, there := s.Get(key); len(b) > 0 || there {
			t.Errorf("Get(%.20q): %.20q, %t", key, b, there)
		}
	}
}

// has complains unless a file has these firm bytes, and no loose ones.
func has(t *testing.T, d *disk.Disk, name, text string) {
	t.Helper()
	got, err := d.Read(name)
	if string(got) != text || err != api.OK || d.Synced(name) != len(text) {
		t.Errorf("%s: %.200q, %d firm, %d; not %.200q", name, got, d.Synced(name), err, text)
	}
}

// lists complains unless these are a disk's names.
func lists(t *testing.T, d *disk.Disk, names ...string) {
	t.Helper()
	if got := d.List(); !slices.Equal(got, names) {
		t.Errorf("List: %q, not %q", got, names)
	}
}

// like complains unless a disk has these files, and nothing of them is loose.
func like(t *testing.T, d *disk.Disk, wanted files) {
	t.Helper()
	lists(t, d, slices.Sorted(maps.Keys(wanted))...)
	for name, text := range wanted {
		has(t, d, name, text)
	}
}

// lay is a disk with these files, all of whose bytes are firm.
func lay(t *testing.T, stands files) *disk.Disk {
	t.Helper()
	d := room(t, api.MaxDisk)
	for name, text := range stands {
		want(t, "Append "+name, d.Append(name, []byte(text)), api.OK)
		want(t, "Sync "+name, d.Sync(name), api.OK)
	}
	return d
}

// sealed is text with its sum behind it, by the library.
func sealed(text string) string {
	return string(binary.BigEndian.AppendUint32([]byte(text), crc32.ChecksumIEEE([]byte(text))))
}

// varint is a number as the chapter's words have it, by the library.
func varint(n int) string {
	return string(binary.AppendUvarint(nil, uint64(n)))
}

// spot is what an index says of a key.
type spot struct {
	key               string
	pack, place, size int
}

// bare are the bytes of a commit's index, without the seal.
func bare(number int, spots ...spot) string {
	text := "HSI1" + varint(number) + varint(len(spots))
	for _, s := range spots {
		text += varint(len(s.key)) + s.key + varint(s.pack) + varint(s.place) + varint(s.size)
	}
	return text
}

// index are the bytes of a commit's index.
func index(number int, spots ...spot) string {
	return sealed(bare(number, spots...))
}

// P5.1 to P5.5: the chapter's examples.
func TestExamples(t *testing.T) {
	d := room(t, 1000)
	s := open(t, d, 0)
	tells(t, s, 0)
	put(t, s, "a", "xyz", "b", "uv")
	commit(t, s, 1)
	like(t, d, files{"c1": "xyzuv", "i1": index(1, spot{"a", 1, 0, 3}, spot{"b", 1, 3, 2})})
	put(t, s, "a", "q")
	commit(t, s, 2)
	lists(t, d, "c1", "c2", "i1", "i2")
	free(t, s, "i1")
	lists(t, d, "c1", "c2", "i2")
	drop(t, s, "b")
	commit(t, s, 3)
	lists(t, d, "c1", "c2", "i2", "i3")
	free(t, s, "c1", "i2")
	like(t, d, files{"c2": "q", "i3": index(3, spot{"a", 2, 0, 1})})
	tells(t, s, 3, "a", "q")
}

// P5.1: the chapter's example of an elder commit.
func TestExampleOfAnElderCommit(t *testing.T) {
	d := room(t, 1000)
	s := open(t, d, 0)
	put(t, s, "a", "xyz", "b", "uv")
	commit(t, s, 1)
	put(t, s, "a", "q")
	commit(t, s, 2)
	tells(t, s, 2, "a", "q", "b", "uv")
	tells(t, open(t, d, 1), 1, "a", "xyz", "b", "uv")
	lists(t, d, "c1", "i1")
}

// P5.4: what stands in the files, byte by byte, all of it firm.
func TestBytesOfACommit(t *testing.T) {
	d := room(t, 1000)
	s := open(t, d, 0)
	put(t, s, "b", "uv", "a", "xyz")
	commit(t, s, 1)
	has(t, d, "c1", "xyzuv")
	has(t, d, "i1", "HSI1\x01\x02\x01a\x01\x00\x03\x01b\x01\x03\x02\x5e\xb1\xa7\x17")
	drop(t, s, "a", "b")
	commit(t, s, 2)
	has(t, d, "i2", "HSI1\x02\x00\xdc\xf9\x66\x2b")
	lists(t, d, "c1", "i1", "i2")
}

// P5.4: numbers, places and lengths whose varints have more bytes than one, and keys that begin alike.
func TestBytesOfLongOnes(t *testing.T) {
	long, longer := strings.Repeat("x", 127), strings.Repeat("y", 16384)
	key := strings.Repeat("k", 60)
	for _, number := range []int{127, 128, 16384, 1 << 32, maxNumber - 1} {
		d := lay(t, files{"i" + strconv.Itoa(number): index(number)})
		s := open(t, d, number)
		put(t, s, key, "", "\x00", long, "\xff", longer, "ab", "abc", "a", "a", "abc", "ab", "\x80", "z")
		commit(t, s, number+1)
		k := number + 1
		like(t, d, files{
			"i" + strconv.Itoa(number): index(number),
			"c" + strconv.Itoa(k):      long + "aabcab" + "z" + longer,
			"i" + strconv.Itoa(k): index(k, spot{"\x00", k, 0, 127}, spot{"a", k, 127, 1}, spot{"ab", k, 128, 3}, spot{"abc", k, 131, 2},
				spot{key, k, 133, 0}, spot{"\x80", k, 133, 1}, spot{"\xff", k, 134, 16384}),
		})
		for range 2 {
			tells(t, s, k, "\x00", long, "a", "a", "ab", "abc", "abc", "ab", key, "", "\x80", "z", "\xff", longer)
			s = open(t, d, k)
		}
	}
}

// P5.2, P5.3: what is got is what was put last and not dropped since, ahead of a commit and behind one.
func TestPutAndDrop(t *testing.T) {
	d := room(t, 1000)
	s := open(t, d, 0)
	none(t, s, "a", "b")
	put(t, s, "a", "1")
	tells(t, s, 0, "a", "1")
	put(t, s, "a", "2", "b", "")
	tells(t, s, 0, "a", "2", "b", "")
	drop(t, s, "a", "c")
	none(t, s, "a", "c")
	tells(t, s, 0, "b", "")
	put(t, s, "a", "3")
	lists(t, d)
	commit(t, s, 1)
	tells(t, s, 1, "a", "3", "b", "")
	put(t, s, "a", "4", "c", "5")
	drop(t, s, "b")
	none(t, s, "b", "", strings.Repeat("k", 61))
	tells(t, s, 1, "a", "4", "c", "5")
	drop(t, s, "a", "a")
	none(t, s, "a", "b")
	put(t, s, "b", "6")
	tells(t, s, 1, "b", "6", "c", "5")
	drop(t, s, "b", "c")
	tells(t, s, 1)
	tells(t, open(t, d, 1), 1, "a", "3", "b", "")
}

// P5.3: which keys there are.
func TestKeys(t *testing.T) {
	long := strings.Repeat("k", api.MaxKey)
	for key, wanted := range map[string]api.Errno{
		"": api.ErrArg, "a": api.OK, "\x00": api.OK, "\xff\xfe": api.OK, "c0102": api.OK, "A/ b": api.OK, long: api.OK,
		long + "k": api.ErrArg, strings.Repeat("k", 1000): api.ErrArg,
	} {
		d := room(t, 1000)
		s := open(t, d, 0)
		want(t, "Put "+key, s.Put(key, []byte("x")), wanted)
		if wanted == api.OK {
			tells(t, s, 0, key, "x")
			commit(t, s, 1)
			tells(t, open(t, d, 1), 1, key, "x")
		} else {
			tells(t, s, 0)
			none(t, s, key)
		}
		want(t, "Drop "+key, s.Drop(key), wanted)
		tells(t, s, s.Number())
	}
}

// P5.3: how many bytes a blob may have.
func TestLongBlobs(t *testing.T) {
	d := room(t, api.MaxDisk)
	s := open(t, d, 0)
	long := strings.Repeat("x", api.MaxBlob)
	put(t, s, "a", "ahead")
	want(t, "Put of one beyond", s.Put("a", []byte(long+"y")), api.ErrLong)
	tells(t, s, 0, "a", "ahead")
	put(t, s, "a", long, "b", "behind", "c", long)
	commit(t, s, 1)
	has(t, d, "c1", long+"behind"+long)
	for range 2 {
		tells(t, s, 1, "a", long, "b", "behind", "c", long)
		s = open(t, d, 1)
	}
}

// manyKeys are so many keys of 60 bytes, rising.
func manyKeys(count int) []string {
	var keys []string
	for i := range count {
		digits := strconv.Itoa(1<<20 + i)
		keys = append(keys, strings.Repeat("k", api.MaxKey-len(digits))+digits)
	}
	return keys
}

// P5.3: how many keys there may be: those that are there count, whatever was put and dropped since.
func TestManyKeys(t *testing.T) {
	d := room(t, api.MaxDisk)
	s := open(t, d, 0)
	keys := manyKeys(api.MaxKeys + 2)
	beyond := keys[api.MaxKeys:]
	var pairs []string
	for _, key := range keys[:api.MaxKeys] {
		pairs = append(pairs, key, key[55:])
	}
	put(t, s, pairs[:len(pairs)-2]...)
	commit(t, s, 1)
	put(t, s, pairs[len(pairs)-2:]...)
	for number := 1; number < 4; number++ {
		want(t, "Put of one beyond", s.Put(beyond[0], nil), api.ErrFull)
		none(t, s, beyond[0])
		tells(t, s, number, pairs...)
		put(t, s, keys[number], "again")
		pairs[2*number+1] = "again"
		commit(t, s, number+1)
		s = open(t, d, number+1)
	}
	drop(t, s, beyond[0], keys[0])
	put(t, s, beyond[0], "instead")
	want(t, "Put of another one", s.Put(beyond[1], nil), api.ErrFull)
	want(t, "Put of what was dropped", s.Put(keys[0], nil), api.ErrFull)
	commit(t, s, 5)
	tells(t, open(t, d, 5), 5, append(pairs[2:], beyond[0], "instead")...)
}

// P5.3: of several errors the first one counts, and none ends the store.
func TestErrorsOfPut(t *testing.T) {
	d := room(t, api.MaxDisk)
	s := open(t, d, 0)
	for _, key := range manyKeys(api.MaxKeys) {
		put(t, s, key, "")
	}
	long := make([]byte, api.MaxBlob+1)
	want(t, "key, length, count", s.Put("", long), api.ErrArg)
	want(t, "length, count", s.Put("a", long), api.ErrLong)
	want(t, "count", s.Put("a", long[1:]), api.ErrFull)
	if s.Over() || len(s.Keys()) != api.MaxKeys {
		t.Errorf("Over %t, %d keys", s.Over(), len(s.Keys()))
	}
}

// P5.4: a commit has a pack only if keys that are there were put since.
func TestWhenThereIsAPack(t *testing.T) {
	d := room(t, 1000)
	s := open(t, d, 0)
	commit(t, s, 1)
	put(t, s, "a", "x")
	drop(t, s, "a")
	commit(t, s, 2)
	put(t, s, "a", "")
	commit(t, s, 3)
	commit(t, s, 4)
	put(t, s, "a", "x")
	drop(t, s, "a")
	commit(t, s, 5)
	put(t, s, "b", "y")
	commit(t, s, 6)
	put(t, s, "b", "y")
	commit(t, s, 7)
	drop(t, s, "b", "c")
	put(t, s, "b", "y", "c", "z")
	commit(t, s, 8)
	like(t, d, files{
		"i1": index(1), "i2": index(2), "c3": "", "i3": index(3, spot{"a", 3, 0, 0}), "i4": index(4, spot{"a", 3, 0, 0}),
		"i5": index(5), "c6": "y", "i6": index(6, spot{"b", 6, 0, 1}), "c7": "y", "i7": index(7, spot{"b", 7, 0, 1}),
		"c8": "yz", "i8": index(8, spot{"b", 8, 0, 1}, spot{"c", 8, 1, 1}),
	})
	free(t, s, "c3", "c6", "c7", "i1", "i2", "i3", "i4", "i5", "i6", "i7")
	tells(t, open(t, d, 8), 8, "b", "y", "c", "z")
	like(t, d, files{"c8": "yz", "i8": index(8, spot{"b", 8, 0, 1}, spot{"c", 8, 1, 1})})
}

// letter is the key of the number n, from 1 on.
func letter(n int) string {
	return string(rune('a' + n - 1))
}

// spreadFiles are those of a commit that rests on so many packs, each of which has the blob of a key: "A" of "a", and so on.
func spreadFiles(packs int) files {
	stands := files{}
	var spots []spot
	for n := 1; n <= packs; n++ {
		stands["c"+strconv.Itoa(n)] = strings.ToUpper(letter(n))
		spots = append(spots, spot{letter(n), n, 0, 1})
	}
	stands["i"+strconv.Itoa(packs)] = index(packs, spots...)
	return stands
}

// spread is a store of such a commit.
func spread(t *testing.T, packs int) (*disk.Disk, *pages.Store) {
	t.Helper()
	d := lay(t, spreadFiles(packs))
	return d, open(t, d, packs)
}

// change puts keys, each as its own blob, and then drops some, as letters tell them; wanted is what is there behind that.
func change(t *testing.T, s *pages.Store, puts, drops string) (wanted map[string]string) {
	t.Helper()
	wanted = map[string]string{}
	for _, key := range s.Keys() {
		wanted[key] = strings.ToUpper(key)
	}
	for _, key := range strings.Split(puts, "") {
		put(t, s, key, key)
		wanted[key] = key
	}
	for _, key := range strings.Split(drops, "") {
		drop(t, s, key)
		delete(wanted, key)
	}
	return wanted
}

// P5.4, P5.6: if the keys that were not put name more than fifteen packs, all go into the new one, be there any that were put, or none; so a commit rests on sixteen at most.
func TestAllIntoOnePack(t *testing.T) {
	for _, c := range []struct {
		packs       int
		puts, drops string
		pack        string // of the next commit
	}{
		{14, "", "", ""}, {14, "z", "", "z"},
		{15, "", "", ""}, {15, "z", "", "z"}, {15, "a", "", "a"}, {15, "ao", "", "ao"}, {15, "", "a", ""},
		{16, "", "", "ABCDEFGHIJKLMNOP"}, {16, "z", "", "ABCDEFGHIJKLMNOPz"}, {16, "z", "z", "ABCDEFGHIJKLMNOP"},
		{16, "b", "", "b"}, {16, "pz", "", "pz"}, {16, "", "c", ""}, {16, "z", "c", "z"}, {16, "cz", "c", "z"}, {16, "a", "bcdefghijklmnop", "a"},
		{17, "", "", "ABCDEFGHIJKLMNOPQ"}, {17, "a", "", "aBCDEFGHIJKLMNOPQ"}, {17, "az", "", "aBCDEFGHIJKLMNOPQz"}, {17, "ab", "", "ab"},
		{17, "", "a", "BCDEFGHIJKLMNOPQ"}, {17, "", "ab", ""}, {17, "a", "b", "a"}, {17, "az", "az", "BCDEFGHIJKLMNOPQ"},
		{20, "bc", "d", "AbcEFGHIJKLMNOPQRST"},
	} {
		d, s := spread(t, c.packs)
		wanted := change(t, s, c.puts, c.drops)
		k := c.packs + 1
		commit(t, s, k)
		stands, pairs, spots := files{}, []string{}, []spot{}
		if c.pack != "" {
			stands["c"+strconv.Itoa(k)] = c.pack
		}
		for _, key := range slices.Sorted(maps.Keys(wanted)) {
			pairs = append(pairs, key, wanted[key])
			if at := strings.Index(c.pack, wanted[key]); at >= 0 {
				spots = append(spots, spot{key, k, at, 1})
				continue
			}
			n := int(key[0]-'a') + 1
			spots = append(spots, spot{key, n, 0, 1})
			stands["c"+strconv.Itoa(n)] = wanted[key]
		}
		stands["i"+strconv.Itoa(k)] = index(k, spots...)
		tells(t, s, k, pairs...)
		if _, err := s.Free(); err != api.OK || len(stands) > api.MaxPacks+1 {
			t.Errorf("Free: %d; %d files", err, len(stands))
		}
		like(t, d, stands)
		tells(t, open(t, d, k), k, pairs...)
	}
}

// P5.4: blobs that are parts of a pack, or lie upon one another there, stand in the new one by themselves.
func TestAllOfWhatLiesUponOneAnother(t *testing.T) {
	stands := files{}
	spots := []spot{{"a", 1, 1, 3}, {"b", 1, 0, 5}, {"c", 1, 2, 2}, {"d", 1, 5, 0}}
	stands["c1"] = "vwxyz"
	for n := 2; n <= 16; n++ {
		stands["c"+strconv.Itoa(n)] = "some " + letter(n)
		spots = append(spots, spot{"k" + letter(n), n, 5, 1})
	}
	stands["i20"] = index(20, spots...)
	d := lay(t, stands)
	s := open(t, d, 20)
	commit(t, s, 21)
	has(t, d, "c21", "wxy"+"vwxyz"+"xy"+"bcdefghijklmnop")
	free(t, s, "c1", "c10", "c11", "c12", "c13", "c14", "c15", "c16", "c2", "c3", "c4", "c5", "c6", "c7", "c8", "c9", "i20")
	for range 2 {
		for key, wanted := range map[string]string{"a": "wxy", "b": "vwxyz", "c": "xy", "d": "", "kb": "b", "kp": "p"} {
			if b, there := s.Get(key); string(b) != wanted || !there {
				t.Errorf("Get(%s): %q, %t", key, b, there)
			}
		}
		s = open(t, d, 21)
	}
}

// P5.4: more bytes than any disk has, of blobs that lie upon one another, are refused as others are.
func TestAllOfMoreThanADisk(t *testing.T) {
	long := strings.Repeat("x", api.MaxBlob)
	stands := files{"c1": long}
	var spots []spot
	for i, key := range manyKeys(api.MaxKeys) {
		spots = append(spots, spot{key, 1 + i%16, 0, api.MaxBlob})
		if i%16 > 0 {
			spots[i].size = 1
			stands["c"+strconv.Itoa(1+i%16)] = "y"
		}
	}
	stands["i16"] = index(16, spots...)
	d := lay(t, stands)
	s := open(t, d, 16)
	if number, err := s.Commit(); number != 0 || err != api.ErrFull || !s.Over() {
		t.Errorf("Commit: %d, %d; over %t", number, err, s.Over())
	}
	like(t, d, stands)
	if b, there := s.Get(spots[4080].key); string(b) != long || !there {
		t.Errorf("Get: %d bytes, %t", len(b), there)
	}
}

// P5.4: files that have the names of a commit's go, whatever they have, and others stay.
func TestCommitRemovesWhatIsThere(t *testing.T) {
	d := room(t, 1000)
	s := open(t, d, 0)
	for _, name := range []string{"c1", "i1", "i.new", "c2", "i2", "c01", "i3", "c", "i.new.", "root.new"} {
		want(t, "Append "+name, d.Append(name, []byte("some "+name)), api.OK)
		want(t, "Sync "+name, d.Sync(name), api.OK)
	}
	put(t, s, "a", "x")
	commit(t, s, 1)
	stands := files{
		"c": "some c", "c01": "some c01", "c1": "x", "c2": "some c2", "i.new.": "some i.new.",
		"i1": index(1, spot{"a", 1, 0, 1}), "i2": "some i2", "i3": "some i3", "root.new": "some root.new",
	}
	like(t, d, stands)
	drop(t, s, "a")
	commit(t, s, 2)
	stands["i2"] = index(2)
	like(t, d, stands)
	free(t, s, "c1", "c2", "i1", "i3")
}

// P5.1, P5.4: the greatest number is the last one.
func TestGreatestNumber(t *testing.T) {
	name := "9007199254740992"
	d := lay(t, files{"i9007199254740991": index(maxNumber - 1)})
	s := open(t, d, maxNumber-1)
	put(t, s, "a", "x")
	commit(t, s, maxNumber)
	free(t, s, "i9007199254740991")
	stands := files{"c" + name: "x", "i" + name: index(maxNumber, spot{"a", maxNumber, 0, 1})}
	for range 2 {
		put(t, s, "b", "y")
		number, err := s.Commit()
		if number != 0 || err != api.ErrArg {
			t.Errorf("Commit of one beyond: %d, %d", number, err)
		}
		tells(t, s, maxNumber, "a", "x", "b", "y")
		drop(t, s, "b")
		free(t, s)
		like(t, d, stands)
		s = open(t, d, maxNumber)
	}
}

// P5.5: what the commit rests on stays, though it was put anew or dropped since; what the new one does not rest on goes.
func TestFree(t *testing.T) {
	d := room(t, 1000)
	s := open(t, d, 0)
	free(t, s)
	put(t, s, "a", "1", "b", "2")
	commit(t, s, 1)
	free(t, s)
	put(t, s, "a", "3")
	commit(t, s, 2)
	put(t, s, "b", "4")
	drop(t, s, "a")
	free(t, s, "i1")
	free(t, s)
	tells(t, s, 2, "b", "4")
	like(t, d, files{"c1": "12", "c2": "3", "i2": index(2, spot{"a", 2, 0, 1}, spot{"b", 1, 1, 1})})
	for _, name := range []string{"i.new", "c7", "i7", "i10", "c3", "i1", "i9007199254740993", "c0"} {
		want(t, "Append "+name, d.Append(name, []byte("other")), api.OK)
	}
	free(t, s, "c3", "c7", "i.new", "i1", "i10", "i7")
	lists(t, d, "c0", "c1", "c2", "i2", "i9007199254740993")
	commit(t, s, 3)
	free(t, s, "c1", "c2", "i2")
	lists(t, d, "c0", "c3", "i3", "i9007199254740993")
	tells(t, open(t, d, 3), 3, "b", "4")
}

// P5.5: a store without a commit rests on no file.
func TestFreeOfNothing(t *testing.T) {
	d := room(t, 1000)
	s := open(t, d, 0)
	put(t, s, "a", "x")
	for _, name := range []string{"i0", "c0", "i1", "c1", "i.new", "x"} {
		want(t, "Append "+name, d.Append(name, []byte("other")), api.OK)
	}
	free(t, s, "c1", "i.new", "i1")
	lists(t, d, "c0", "i0", "x")
	tells(t, s, 0, "a", "x")
}
