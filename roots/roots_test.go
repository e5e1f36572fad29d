package roots_test

import (
	"encoding/binary"
	"hash/crc32"
	"maps"
	"math"
	"slices"
	"strconv"
	"strings"
	"testing"

	"homestead/api"
	"homestead/disk"
	"homestead/roots"
)

// maxNumber is the greatest number of a root.
const maxNumber = 1 << 53

// files are a disk's, by their names.
type files = map[string]string

// want complains unless an error is the one that was wanted.
func want(t *testing.T, what string, got, wanted api.Errno) {
	t.Helper()
	if got != wanted {
		t.Errorf("%s: %d, not %d", what, got, wanted)
	}
}

// root is one.
func root(serial, tick, commit int, blob string) api.Root {
	return api.Root{Serial: serial, Tick: tick, Commit: commit, Blob: []byte(blob)}
}

// same tells whether two roots are.
func same(a, b api.Root) bool {
	return a.Serial == b.Serial && a.Tick == b.Tick && a.Commit == b.Commit && string(a.Blob) == string(b.Blob)
}

// show is a root as a text.
func show(r api.Root) string {
	text := strconv.Quote(string(r.Blob[:min(len(r.Blob), 100)]))
	return "(" + strconv.Itoa(r.Serial) + ", " + strconv.Itoa(r.Tick) + ", " + strconv.Itoa(r.Commit) + ", " + text + ")"
}

// sealed is a text with its seal.
func sealed(text string) string {
	return string(binary.BigEndian.AppendUint32([]byte(text), crc32.ChecksumIEEE([]byte(text))))
}

// varint is that of a number.
func varint(n int) string {
	return string(binary.AppendUvarint(nil, uint64(n)))
}

// bare are the bytes of a root, be it right or not, without their seal.
func bare(r api.Root) string {
	return "HSR1" + varint(r.Serial) + varint(r.Tick) + varint(r.Commit) + varint(len(r.Blob)) + string(r.Blob)
}

// text are the bytes of a root.
func text(r api.Root) string {
	return sealed(bare(r))
}

// room is a new disk with room for so many bytes.
func room(t *testing.T, most int) *disk.Disk {
	t.Helper()
	d, err := disk.New(most)
	if d == nil || err != api.OK {
		t.Fatalf("New(%d): %v, %d", most, d, err)
	}
	return d
}

// lay is a disk with these files, all of them firm.
func lay(t *testing.T, stands files) *disk.Disk {
	t.Helper()
	d := room(t, api.MaxDisk)
	for name, b := range stands {
		want(t, "Append "+name, d.Append(name, []byte(b)), api.OK)
		want(t, "Sync "+name, d.Sync(name), api.OK)
	}
	return d
}

// like complains unless a disk has these files, and nothing of them is loose.
func like(t *testing.T, d *disk.Disk, wanted files) {
	t.Helper()
	if names := slices.Sorted(maps.Keys(wanted)); !slices.Equal(d.List(), names) {
		t.Errorf("List: %q, not %q", d.List(), names)
	}
	for name, b := range wanted {
		got, err := d.Read(name)
		if string(got) != b || err != api.OK || d.Synced(name) != len(b) {
			t.Errorf("%s: %.100q, %d firm, %d; not %.100q", name, got, d.Synced(name), err, b)
		}
	}
}

// counts complains unless that root counts.
func counts(t *testing.T, d *disk.Disk, wanted api.Root) {
	t.Helper()
	if r, there, err := roots.Read(d); !same(r, wanted) || !there || err != api.OK {
		t.Errorf("Read: %s, %t, %d; not %s", show(r), there, err, show(wanted))
	}
}

// none complains if a root counts.
func none(t *testing.T, d *disk.Disk) {
	t.Helper()
	if r, there, err := roots.Read(d); !same(r, api.Root{}) || there || err != api.OK {
		t.Errorf("Read: %s, %t, %d", show(r), there, err)
	}
}

// refuses complains unless Read tells that error, and nothing else.
func refuses(t *testing.T, what string, d *disk.Disk, wanted api.Errno) {
	t.Helper()
	if r, there, err := roots.Read(d); !same(r, api.Root{}) || there || err != wanted {
		t.Errorf("%s: Read: %s, %t, %d", what, show(r), there, err)
	}
}

// write complains unless Write of a root tells it, under that serial number.
func write(t *testing.T, d *disk.Disk, r api.Root, serial int) {
	t.Helper()
	wanted := r
	wanted.Serial = serial
	if got, err := roots.Write(d, r); !same(got, wanted) || err != api.OK {
		t.Errorf("Write: %s, %d; not %s", show(got), err, show(wanted))
	}
}

// fails complains unless Write of a root tells that error, and nothing else.
func fails(t *testing.T, what string, d *disk.Disk, r api.Root, wanted api.Errno) {
	t.Helper()
	if got, err := roots.Write(d, r); !same(got, api.Root{}) || err != wanted {
		t.Errorf("%s: Write: %s, %d; not %d", what, show(got), err, wanted)
	}
}

// rightRoots are ordinary roots, and those at the limits.
func rightRoots() []api.Root {
	return []api.Root{
		{Serial: 1}, root(1, 5, 2, ""), root(2, 6, 3, "blob"), root(127, 128, 300, "\x00\x80\xff"),
		root(128, 127, 1<<32, strings.Repeat("b", 127)), root(1<<31, 1<<35, 1<<31-1, strings.Repeat("b", 128)),
		{Serial: maxNumber}, {Serial: 1, Tick: maxNumber}, {Serial: 1, Commit: maxNumber}, {Serial: maxNumber - 1, Tick: maxNumber - 1, Commit: maxNumber - 1},
		root(maxNumber, maxNumber, maxNumber, strings.Repeat("b", api.MaxBlob)), root(1, 0, 0, strings.Repeat("\x00", api.MaxBlob-1)),
	}
}

// P6.1: a root's bytes, and the root of them.
func TestRightRoots(t *testing.T) {
	for _, r := range rightRoots() {
		b, err := roots.Bytes(r)
		if string(b) != text(r) || err != api.OK {
			t.Errorf("Bytes of %s: %.100q, %d", show(r), b, err)
		}
		if got, err := roots.Parse([]byte(text(r))); !same(got, r) || err != api.OK {
			t.Errorf("Parse: %s, %d; not %s", show(got), err, show(r))
		}
	}
}

// P6.1: byte by byte, as the chapter has them.
func TestBytesOneByOne(t *testing.T) {
	b, err := roots.Bytes(root(300, 127, 128, "ab"))
	wanted := []byte{72, 83, 82, 49, 172, 2, 127, 128, 1, 2, 97, 98}
	if len(b) != len(wanted)+4 || !slices.Equal(b[:len(wanted)], wanted) || err != api.OK {
		t.Fatalf("%v, %d", b, err)
	}
	if sum := crc32.ChecksumIEEE(wanted); sum != binary.BigEndian.Uint32(b[len(wanted):]) {
		t.Errorf("seal %v", b[len(wanted):])
	}
}

// wrongNumbers are roots of which one number may not be.
func wrongNumbers() []api.Root {
	var wrong []api.Root
	for _, n := range []int{math.MinInt, -maxNumber, -2, -1, maxNumber + 1, math.MaxInt} {
		wrong = append(wrong, api.Root{Serial: n}, api.Root{Serial: 1, Tick: n}, api.Root{Serial: 1, Commit: n})
	}
	return append(wrong, api.Root{}, root(0, 5, 2, "blob"))
}

// P6.1: ErrArg, ErrLong, in this order; nothing beside.
func TestBytesErrors(t *testing.T) {
	long := strings.Repeat("b", api.MaxBlob+1)
	for _, r := range wrongNumbers() {
		for _, blob := range []string{"", "blob", long} {
			r.Blob = []byte(blob)
			if b, err := roots.Bytes(r); len(b) > 0 || err != api.ErrArg {
				t.Errorf("%s: %.100q, %d", show(r), b, err)
			}
		}
	}
	for _, blob := range []string{long, long + long} {
		if b, err := roots.Bytes(root(1, 5, 2, blob)); len(b) > 0 || err != api.ErrLong {
			t.Errorf("%d bytes: %.100q, %d", len(blob), b, err)
		}
	}
}

// isNone complains unless Parse of a text tells that error, and nothing else, and Read takes the file that has it for none.
func isNone(t *testing.T, what, b string, wanted api.Errno) {
	t.Helper()
	if r, err := roots.Parse([]byte(b)); !same(r, api.Root{}) || err != wanted {
		t.Errorf("%s: %s, %d; not %d", what, show(r), err, wanted)
	}
	for _, name := range []string{"root0", "root1"} {
		none(t, lay(t, files{name: b}))
	}
}

// P6.1: what is cut off, or turned, is refused by Unseal's errors.
func TestSpoiltBytes(t *testing.T) {
	for _, r := range []api.Root{{Serial: 1}, root(300, 5, 2, "blob"), root(1, 5, 2, "HSR1\x01\x05\x02\x00")} {
		whole := text(r)
		for n := range len(whole) {
			wanted := api.ErrSum
			if n < 4 {
				wanted = api.ErrShort
			}
			isNone(t, strconv.Itoa(n)+" bytes", whole[:n], wanted)
			for bit := range 8 {
				turned := whole[:n] + string([]byte{whole[n] ^ 1<<bit}) + whole[n+1:]
				isNone(t, "byte "+strconv.Itoa(n)+" turned", turned, api.ErrSum)
			}
		}
		isNone(t, "without a seal", bare(r), api.ErrSum)
		isNone(t, "more behind", whole+"x", api.ErrSum)
		isNone(t, "more ahead", "x"+whole, api.ErrSum)
		isNone(t, "twice", whole+whole, api.ErrSum)
	}
	isNone(t, "one nought more than a sum", strings.Repeat("\x00", 5), api.ErrSum)
}

// P6.1: what is sealed, but no right root's bytes, is ErrBytes.
func TestSealedOtherBytes(t *testing.T) {
	whole := bare(root(300, 5, 2, "blob"))
	for n := range len(whole) {
		isNone(t, strconv.Itoa(n)+" bytes", sealed(whole[:n]), api.ErrBytes)
	}
	for _, more := range []string{"\x00", "x", "\x80", whole} {
		isNone(t, "more behind: "+strconv.Quote(more), sealed(whole+more), api.ErrBytes)
		isNone(t, "more ahead: "+strconv.Quote(more), sealed(more+whole), api.ErrBytes)
	}
	isNone(t, "sealed twice", sealed(text(root(300, 5, 2, "blob"))), api.ErrBytes)
	isNone(t, "nothing but its sum", "\x00\x00\x00\x00", api.ErrBytes)
	for _, magic := range []string{"HSW1", "HSI1", "HSR2", "HSR0", "hsr1", "HSR", "HSR1\x01", "HSR1HSR1", "1RSH", ""} {
		isNone(t, "magic "+strconv.Quote(magic), sealed(magic+"\x01\x05\x02\x00"), api.ErrBytes)
	}
	for _, r := range wrongNumbers() {
		isNone(t, show(r), text(r), api.ErrBytes)
		r.Blob = []byte("blob")
		isNone(t, show(r), text(r), api.ErrBytes)
	}
}

// P6.1: numbers that are no varints, or too great ones, and blobs that are not there wholly.
func TestWrongVarints(t *testing.T) {
	over, tooLong := strings.Repeat("\xff", 9)+"\x01", strings.Repeat("\x80", 10)+"\x01"
	for _, wrong := range []string{"\x80\x00", "\x81\x00", "\x85\x80\x00", over, over[:9] + "\x02", tooLong, over[:9] + "\x80", varint(maxNumber + 1)} {
		for place := range 4 {
			parts := []string{"\x01", "\x05", "\x02", "\x00"}
			parts[place] = wrong
			isNone(t, strconv.Quote(wrong)+" at "+strconv.Itoa(place), sealed("HSR1"+strings.Join(parts, "")), api.ErrBytes)
		}
	}
	for _, blob := range []string{"\x01", "\x05blob", "\x03blob", "\x84\x00blob", over + "blob", varint(api.MaxBlob) + "blob"} {
		isNone(t, "blob "+strconv.Quote(blob), sealed("HSR1\x01\x05\x02"+blob), api.ErrBytes)
	}
	isNone(t, "a blob too long", text(root(1, 5, 2, strings.Repeat("b", api.MaxBlob+1))), api.ErrBytes)
	isNone(t, "a blob too long, without its end", sealed("HSR1\x01\x05\x02"+varint(api.MaxBlob+1)+strings.Repeat("b", api.MaxBlob)), api.ErrBytes)
}
