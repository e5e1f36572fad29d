package wal_test

import (
	"encoding/binary"
	"hash/crc32"
	"math"
	"slices"
	"strconv"
	"strings"
	"testing"

	"homestead/api"
	"homestead/disk"
	"homestead/wal"
)

// maxNumber is the greatest number of a record.
const maxNumber = 1 << 53

// room is a new disk with room for so many bytes.
func room(t *testing.T, most int) *disk.Disk {
	t.Helper()
	d, err := disk.New(most)
	if d == nil || err != api.OK {
		t.Fatalf("New(%d): %v, %d", most, d, err)
	}
	return d
}

// want complains unless an error is the one that was wanted.
func want(t *testing.T, what string, got, wanted api.Errno) {
	t.Helper()
	if got != wanted {
		t.Errorf("%s: %d, not %d", what, got, wanted)
	}
}

// open is a log of what d has, and its records.
func open(t *testing.T, d *disk.Disk, size int) (*wal.Log, []api.Rec) {
	t.Helper()
	l, records, err := wal.Open(d, size)
	if l == nil || err != api.OK {
		t.Fatalf("Open: %v, %d", l, err)
	}
	return l, records
}

// put appends a record, and complains if that is refused.
func put(t *testing.T, l *wal.Log, n int, text string) {
	t.Helper()
	want(t, "Append "+strconv.Itoa(n), l.Append(n, []byte(text)), api.OK)
}

// filled is a log on d with the records of these texts, numbered from n on, all of them synced.
func filled(t *testing.T, d *disk.Disk, size, n int, texts ...string) *wal.Log {
	t.Helper()
	l, _ := open(t, d, size)
	for i, text := range texts {
		put(t, l, n+i, text)
	}
	want(t, "Sync", l.Sync(), api.OK)
	return l
}

// tells complains unless a log tells these numbers, and these names.
func tells(t *testing.T, l *wal.Log, first, last, synced int, names ...string) {
	t.Helper()
	if l.First() != first || l.Last() != last || l.Synced() != synced || !slices.Equal(l.Files(), names) {
		t.Errorf("First %d, Last %d, Synced %d, Files %q; not %d, %d, %d, %q",
			l.First(), l.Last(), l.Synced(), l.Files(), first, last, synced, names)
	}
	if l.Over() {
		t.Error("the log is over")
	}
}

// records complains unless these are the records of these texts, numbered from n on.
func records(t *testing.T, got []api.Rec, n int, texts ...string) {
	t.Helper()
	if len(got) != len(texts) {
		t.Fatalf("%d records, not %d", len(got), len(texts))
	}
	for i, text := range texts {
		if got[i].N != n+i || string(got[i].B) != text {
			t.Errorf("record %d: %d %q; not %d %q", i, got[i].N, got[i].B, n+i, text)
		}
	}
}

// has complains unless a file has these firm bytes, and these loose ones.
func has(t *testing.T, d *disk.Disk, name, firm, loose string) {
	t.Helper()
	got, err := d.Read(name)
	if string(got) != firm+loose || err != api.OK || d.Synced(name) != len(firm) {
		t.Errorf("%s: %q, %d firm, %d; not %q and %q", name, got, d.Synced(name), err, firm, loose)
	}
}

// lists complains unless these are a disk's names.
func lists(t *testing.T, d *disk.Disk, names ...string) {
	t.Helper()
	if got := d.List(); !slices.Equal(got, names) {
		t.Errorf("List: %q, not %q", got, names)
	}
}

// sealed is text with its sum behind it, by the library.
func sealed(text string) string {
	return string(binary.BigEndian.AppendUint32([]byte(text), crc32.ChecksumIEEE([]byte(text))))
}

// varint is a number as the chapter's words have it, by the library.
func varint(n int) string {
	return string(binary.AppendUvarint(nil, uint64(n)))
}

// head is what a segment begins with.
func head(n int) string {
	return sealed("HSW1" + varint(n))
}

// frame is what a record is in a segment.
func frame(n int, text string) string {
	body := varint(n) + text
	return varint(len(body)) + sealed(body)
}

// segment is the whole of one of that number, with the records of these texts.
func segment(n int, texts ...string) string {
	whole := head(n)
	for i, text := range texts {
		whole += frame(n+i, text)
	}
	return whole
}

// lay is a disk with these files, all of whose bytes are firm.
func lay(t *testing.T, files map[string]string) *disk.Disk {
	t.Helper()
	d := room(t, api.MaxDisk)
	for name, text := range files {
		want(t, "Append "+name, d.Append(name, []byte(text)), api.OK)
		want(t, "Sync "+name, d.Sync(name), api.OK)
	}
	return d
}

// P4.1 to P4.4: the chapter's examples.
func TestExamples(t *testing.T) {
	d := room(t, 1000)
	l, got := open(t, d, 64)
	records(t, got, 0)
	tells(t, l, 0, 0, 0)
	put(t, l, 7, "a")
	lists(t, d, "w7")
	want(t, "Append 9", l.Append(9, []byte("b")), api.ErrSeq)
	put(t, l, 8, "b")
	tells(t, l, 7, 8, 6, "w7")
	want(t, "Sync", l.Sync(), api.OK)
	tells(t, l, 7, 8, 8, "w7")
	k := 9
	for ; d.Size("w7") < 64; k++ {
		put(t, l, k, "c")
		lists(t, d, "w7")
	}
	put(t, l, k, "d")
	tells(t, l, 7, k, k-1, "w7", "w"+strconv.Itoa(k))
	names, err := l.Trim(k)
	if err != api.OK || !slices.Equal(names, []string{"w7"}) {
		t.Errorf("Trim: %q, %d", names, err)
	}
	lists(t, d, "w"+strconv.Itoa(k))
}

// P4.1: the chapter's example of a crash in which the last record lost a byte.
func TestExampleOfACrash(t *testing.T) {
	d := room(t, 1000)
	l := filled(t, d, 64, 7, "a", "b")
	put(t, l, 9, "torn")
	d.Crash([]int{len(frame(9, "torn")) - 1})
	l, got := open(t, d, 64)
	records(t, got, 7, "a", "b")
	tells(t, l, 7, 8, 8, "w7")
	has(t, d, "w7", segment(7, "a", "b"), "")
}

// P4.2: what stands in the files, byte by byte: the head is firm, frames are loose up to a Sync.
func TestBytesOfASegment(t *testing.T) {
	d := room(t, 1000)
	l, _ := open(t, d, 64)
	put(t, l, 7, "a")
	first := "HSW1\x07\x46\xd3\xee\xfd"
	if head(7) != first {
		t.Fatalf("the head is %q", head(7))
	}
	second := "\x02\x07a\x34\x2d\xd5\xf6"
	if frame(7, "a") != second {
		t.Fatalf("the frame is %q", frame(7, "a"))
	}
	has(t, d, "w7", first, second)
	put(t, l, 8, "")
	has(t, d, "w7", first, second+frame(8, ""))
	want(t, "Sync", l.Sync(), api.OK)
	has(t, d, "w7", first+second+frame(8, ""), "")
	put(t, l, 9, "\x00\xff")
	has(t, d, "w7", first+second+frame(8, ""), frame(9, "\x00\xff"))
}

// P4.2: numbers and bodies whose varints have more bytes than one.
func TestBytesOfLongOnes(t *testing.T) {
	for _, n := range []int{1, 127, 128, 16383, 16384, 1<<32 - 1, maxNumber - 1, maxNumber} {
		for _, size := range []int{0, 1, 119, 120, 125, 126, 127, 128, 16375, 16384, 100_000} {
			d := room(t, 1<<20)
			l, _ := open(t, d, api.MaxDisk)
			text := strings.Repeat("x", size)
			put(t, l, n, text)
			want(t, "Sync", l.Sync(), api.OK)
			name := "w" + strconv.Itoa(n)
			has(t, d, name, head(n)+frame(n, text), "")
			l, got := open(t, d, api.MaxDisk)
			records(t, got, n, text)
			tells(t, l, n, n, n, name)
		}
	}
}

// P4.1: how many bytes a segment may have, at which another one begins.
func TestOpenSizes(t *testing.T) {
	for size, wanted := range map[int]api.Errno{
		math.MinInt: api.ErrArg, -64: api.ErrArg, -1: api.ErrArg, 0: api.ErrArg, 63: api.ErrArg, 64: api.OK, 65: api.OK,
		api.MaxDisk - 1: api.OK, api.MaxDisk: api.OK, api.MaxDisk + 1: api.ErrArg, math.MaxInt: api.ErrArg,
	} {
		d := lay(t, map[string]string{"w7": segment(7, "a")})
		l, got, err := wal.Open(d, size)
		want(t, "Open of "+strconv.Itoa(size), err, wanted)
		if (l != nil) != (wanted == api.OK) || (len(got) == 1) != (wanted == api.OK) {
			t.Errorf("Open of %d: %v, %v", size, l, got)
		}
	}
}

// P4.2: which number the first record may have.
func TestFirstNumbers(t *testing.T) {
	for n, wanted := range map[int]api.Errno{
		math.MinInt: api.ErrArg, -1: api.ErrArg, 0: api.ErrArg, 1: api.OK, 2: api.OK,
		maxNumber: api.OK, maxNumber + 1: api.ErrArg, math.MaxInt: api.ErrArg,
	} {
		d := room(t, 1000)
		l, _ := open(t, d, 64)
		want(t, "Append of "+strconv.Itoa(n), l.Append(n, []byte("a")), wanted)
		if wanted == api.OK {
			tells(t, l, n, n, n-1, "w"+strconv.Itoa(n))
		} else {
			tells(t, l, 0, 0, 0)
			lists(t, d)
		}
	}
}

// P4.2: which number a record may have behind others.
func TestNextNumbers(t *testing.T) {
	d := room(t, 1000)
	l := filled(t, d, 64, 7, "a", "b")
	for n, wanted := range map[int]api.Errno{
		math.MinInt: api.ErrArg, 0: api.ErrArg, 1: api.ErrSeq, 7: api.ErrSeq, 8: api.ErrSeq, 10: api.ErrSeq,
		maxNumber: api.ErrSeq, maxNumber + 1: api.ErrArg,
	} {
		want(t, "Append of "+strconv.Itoa(n), l.Append(n, []byte("a")), wanted)
		tells(t, l, 7, 8, 8, "w7")
	}
	has(t, d, "w7", segment(7, "a", "b"), "")
	put(t, l, 9, "c")
	tells(t, l, 7, 9, 8, "w7")
}

// P4.1, P4.2: the greatest number is the last one.
func TestGreatestNumber(t *testing.T) {
	d := room(t, 1000)
	l := filled(t, d, 64, maxNumber-1, strings.Repeat("a", 64), "b")
	name, last := "w"+strconv.Itoa(maxNumber-1), "w"+strconv.Itoa(maxNumber)
	for range 2 {
		tells(t, l, maxNumber-1, maxNumber, maxNumber, name, last)
		want(t, "Append of one beyond", l.Append(maxNumber+1, nil), api.ErrArg)
		want(t, "Append of the same", l.Append(maxNumber, nil), api.ErrSeq)
		l, _ = open(t, d, 64)
	}
	if names, err := l.Trim(math.MaxInt); err != api.OK || !slices.Equal(names, []string{name}) {
		t.Errorf("Trim: %q, %d", names, err)
	}
	tells(t, l, maxNumber, maxNumber, maxNumber, last)
}

// P4.2: how many bytes a record may have.
func TestLongRecords(t *testing.T) {
	d := room(t, api.MaxDisk)
	l, _ := open(t, d, 64)
	long := strings.Repeat("x", api.MaxRec)
	want(t, "Append of one beyond", l.Append(1, []byte(long+"y")), api.ErrLong)
	tells(t, l, 0, 0, 0)
	lists(t, d)
	put(t, l, 1, long)
	want(t, "Append of one beyond", l.Append(2, []byte(long+"y")), api.ErrLong)
	put(t, l, 2, long)
	tells(t, l, 1, 2, 1, "w1", "w2")
	l, got := open(t, d, 64)
	records(t, got, 1, long, long)
	tells(t, l, 1, 2, 2, "w1", "w2")
}

// P4.2: of several errors the first one counts, and none but the disk's ends the log.
func TestErrorsOfAppend(t *testing.T) {
	d := room(t, 1000)
	l := filled(t, d, 64, 7, "a")
	long := make([]byte, api.MaxRec+1)
	d.Arm(0)
	want(t, "number, length", l.Append(0, long), api.ErrArg)
	want(t, "length, order", l.Append(7, long), api.ErrLong)
	want(t, "order, power", l.Append(7, nil), api.ErrSeq)
	tells(t, l, 7, 7, 7, "w7")
	want(t, "power", l.Append(8, nil), api.ErrDown)
	want(t, "end, number", l.Append(0, long), api.ErrEnded)
}

// P4.2: another segment begins behind as many bytes as the size, head and all, and not ahead of that.
func TestAnotherSegmentBegins(t *testing.T) {
	for _, size := range []int{64, 65, 100, 1000} {
		for _, less := range []int{-1, 0, 1, 2} {
			// Of a first segment with one frame of some length the second one makes size bytes, but for less.
			d := room(t, 10_000)
			l, _ := open(t, d, size)
			put(t, l, 7, "abc")
			rest := size - less - len(segment(7, "abc")) - len(frame(8, ""))
			text := strings.Repeat("x", rest)
			if rest > 125 {
				text = text[1:] // the varint of its length has a byte more
			}
			put(t, l, 8, text)
			if d.Size("w7") != size-less {
				t.Fatalf("%d bytes, not %d but for %d", d.Size("w7"), size, less)
			}
			put(t, l, 9, "next")
			if less > 0 {
				tells(t, l, 7, 9, 6, "w7")
				has(t, d, "w7", head(7), frame(7, "abc")+frame(8, text)+frame(9, "next"))
				continue
			}
			tells(t, l, 7, 9, 8, "w7", "w9")
			has(t, d, "w7", segment(7, "abc", text), "")
			has(t, d, "w9", head(9), frame(9, "next"))
		}
	}
}

// P4.2: segments upon segments, one a record, and all of them at the next Open.
func TestManySegments(t *testing.T) {
	d := room(t, 100_000)
	l, _ := open(t, d, 64)
	var texts, names []string
	for n := 95; n < 125; n++ {
		texts = append(texts, strings.Repeat(strconv.Itoa(n), 30))
		names = append(names, "w"+strconv.Itoa(n))
		put(t, l, n, texts[n-95])
		tells(t, l, 95, n, n-1, names...)
	}
	for range 2 {
		var got []api.Rec
		l, got = open(t, d, 64)
		records(t, got, 95, texts...)
		tells(t, l, 95, 124, 124, names...)
	}
	put(t, l, 125, "more")
	tells(t, l, 95, 125, 124, append(names, "w125")...)
}

// P4.1: a log that is opened again with another size goes by that one.
func TestAnotherSize(t *testing.T) {
	d := room(t, 10_000)
	filled(t, d, 1000, 7, strings.Repeat("a", 100), strings.Repeat("b", 100))
	l, _ := open(t, d, 64)
	put(t, l, 9, strings.Repeat("c", 100))
	tells(t, l, 7, 9, 8, "w7", "w9")
	l, _ = open(t, d, 1000)
	put(t, l, 10, strings.Repeat("d", 100))
	tells(t, l, 7, 10, 9, "w7", "w9")
}

// P4.2: a file that has the next segment's name goes, whatever it has; others stay.
func TestBeginRemovesWhatIsThere(t *testing.T) {
	d := room(t, 10_000)
	l, _ := open(t, d, 64)
	put := func(name, text string) { want(t, "Append "+name, d.Append(name, []byte(text)), api.OK) }
	put("w7", "some bytes")
	put("w8", segment(8, "other"))
	put("i7", "index")
	put("w07", "no segment")
	want(t, "Append 7", l.Append(7, []byte(strings.Repeat("a", 60))), api.OK)
	has(t, d, "w7", head(7), frame(7, strings.Repeat("a", 60)))
	has(t, d, "w8", "", segment(8, "other"))
	want(t, "Append 8", l.Append(8, []byte("b")), api.OK)
	has(t, d, "w8", head(8), frame(8, "b"))
	has(t, d, "i7", "", "index")
	has(t, d, "w07", "", "no segment")
	tells(t, l, 7, 8, 7, "w7", "w8")
}

// P4.3: Sync makes the records firm, and only those of the last segment need it.
func TestSync(t *testing.T) {
	d := room(t, 1000)
	l, _ := open(t, d, 64)
	want(t, "Sync without segments", l.Sync(), api.OK)
	tells(t, l, 0, 0, 0)
	lists(t, d)
	put(t, l, 7, strings.Repeat("a", 64))
	put(t, l, 8, "b")
	tells(t, l, 7, 8, 7, "w7", "w8")
	for range 2 {
		want(t, "Sync", l.Sync(), api.OK)
		tells(t, l, 7, 8, 8, "w7", "w8")
	}
	put(t, l, 9, "c")
	tells(t, l, 7, 9, 8, "w7", "w8")
	want(t, "Append x", d.Append("x", []byte("other")), api.OK)
	want(t, "Sync", l.Sync(), api.OK)
	has(t, d, "x", "", "other")
	has(t, d, "w8", segment(8, "b", "c"), "")
}

// spread is a disk with the segments w7, w8, w10 and w13, of one, two, three and one record, and their log.
func spread(t *testing.T) (*disk.Disk, *wal.Log) {
	t.Helper()
	d := lay(t, map[string]string{
		"w7": segment(7, "a"), "w8": segment(8, "b", "c"), "w10": segment(10, "d", "e", "f"), "w13": segment(13, "g"),
	})
	l, got := open(t, d, 64)
	records(t, got, 7, "a", "b", "c", "d", "e", "f", "g")
	return d, l
}

// P4.3: first segments go as long as another one's number is at most below; the last one never does.
func TestTrim(t *testing.T) {
	all := []string{"w7", "w8", "w10", "w13"}
	for below, gone := range map[int]int{
		math.MinInt: 0, -1: 0, 0: 0, 6: 0, 7: 0, 8: 1, 9: 1, 10: 2, 11: 2, 12: 2, 13: 3, 14: 3, 1000: 3, math.MaxInt: 3,
	} {
		d, l := spread(t)
		names, err := l.Trim(below)
		if err != api.OK || !slices.Equal(names, all[:gone]) {
			t.Errorf("Trim of %d: %q, %d", below, names, err)
		}
		tells(t, l, []int{7, 8, 10, 13}[gone], 13, 13, all[gone:]...)
		if left := d.List(); len(left) != len(all)-gone {
			t.Errorf("Trim of %d leaves %q", below, left)
		}
		names, err = l.Trim(below)
		if err != api.OK || len(names) != 0 {
			t.Errorf("Trim of %d again: %q, %d", below, names, err)
		}
		put(t, l, 14, "more")
		texts := []string{"a", "b", "c", "d", "e", "f", "g", "more"}[[]int{0, 1, 3, 6}[gone]:]
		l, got := open(t, d, 64)
		records(t, got, 15-len(texts), texts...)
		tells(t, l, 15-len(texts), 14, 14, all[gone:]...)
	}
}

// P4.3: without segments there is nothing to remove.
func TestTrimOfNothing(t *testing.T) {
	d := lay(t, map[string]string{"i7": "x"})
	l, _ := open(t, d, 64)
	if names, err := l.Trim(100); len(names) != 0 || err != api.OK {
		t.Errorf("Trim: %q, %d", names, err)
	}
	tells(t, l, 0, 0, 0)
	lists(t, d, "i7")
}
