package disk_test

import (
	"math"
	"slices"
	"strconv"
	"strings"
	"testing"

	"homestead/api"
	"homestead/disk"
)

// room is a new disk with room for so many bytes.
func room(t *testing.T, most int) *disk.Disk {
	t.Helper()
	d, err := disk.New(most)
	if d == nil || err != api.OK {
		t.Fatalf("New(%d): %v, %d", most, d, err)
	}
	return d
}

// want complains unless an error is the one that was wanted.
func want(t *testing.T, what string, got, wanted api.Errno) {
	t.Helper()
	if got != wanted {
		t.Errorf("%s: %d, not %d", what, got, wanted)
	}
}

// put appends text to a file, and complains if that is refused.
func put(t *testing.T, d *disk.Disk, name, text string) {
	t.Helper()
	want(t, "Append "+name, d.Append(name, []byte(text)), api.OK)
}

// putFirm is put, and a Sync behind it.
func putFirm(t *testing.T, d *disk.Disk, name, text string) {
	t.Helper()
	put(t, d, name, text)
	want(t, "Sync "+name, d.Sync(name), api.OK)
}

// has complains unless a file has these firm bytes, and these loose ones.
func has(t *testing.T, d *disk.Disk, name, firm, loose string) {
	t.Helper()
	got, err := d.Read(name)
	if string(got) != firm+loose || err != api.OK {
		t.Errorf("Read %s: %q, %d; not %q", name, got, err, firm+loose)
	}
	if d.Size(name) != len(firm+loose) || d.Synced(name) != len(firm) {
		t.Errorf("%s: Size %d, Synced %d; not %q and %q", name, d.Size(name), d.Synced(name), firm, loose)
	}
}

// lists complains unless these are the names.
func lists(t *testing.T, d *disk.Disk, names ...string) {
	t.Helper()
	if got := d.List(); !slices.Equal(got, names) {
		t.Errorf("List: %q, not %q", got, names)
	}
}

// gone complains unless there is no file of that name.
func gone(t *testing.T, d *disk.Disk, name string) {
	t.Helper()
	if got, err := d.Read(name); len(got) != 0 || err != api.ErrFile {
		t.Errorf("Read %s: %q, %d", name, got, err)
	}
	if d.Size(name) != 0 || d.Synced(name) != 0 || slices.Contains(d.List(), name) {
		t.Errorf("%s is there: Size %d, Synced %d, List %q", name, d.Size(name), d.Synced(name), d.List())
	}
}

// P3.1, P3.2, P3.3: the chapter's examples.
func TestExamples(t *testing.T) {
	d := room(t, 100)
	put(t, d, "a", "xyz")
	want(t, "Sync a", d.Sync("a"), api.OK)
	put(t, d, "a", "uv")
	put(t, d, "b", "w")
	if d.Size("a") != 5 || d.Synced("a") != 3 {
		t.Errorf("a: Size %d, Synced %d", d.Size("a"), d.Synced("a"))
	}
	d.Crash([]int{1})
	has(t, d, "a", "xyzu", "")
	has(t, d, "b", "", "")
	want(t, "Rename a b", d.Rename("a", "b"), api.OK)
	lists(t, d, "b")
	has(t, d, "b", "xyzu", "")
	d.Arm(1)
	want(t, "Sync b", d.Sync("b"), api.OK)
	want(t, "Remove b", d.Remove("b"), api.ErrDown)
	if b, err := d.Read("b"); len(b) != 0 || err != api.ErrDown {
		t.Errorf("Read of a disk that is down: %q, %d", b, err)
	}
	d.Crash(nil)
	has(t, d, "b", "xyzu", "")
	want(t, "Append A", d.Append("A", []byte("x")), api.ErrFile)
}

// P3.1: how much room a disk may have, and how it is at first.
func TestNew(t *testing.T) {
	for _, most := range []int{math.MinInt, -1, api.MaxDisk + 1, math.MaxInt} {
		if d, err := disk.New(most); d != nil || err != api.ErrArg {
			t.Errorf("New(%d): %v, %d", most, d, err)
		}
	}
	for _, most := range []int{0, 1, 1000, api.MaxDisk - 1, api.MaxDisk} {
		d := room(t, most)
		lists(t, d)
		if d.Used() != 0 || d.Down() {
			t.Errorf("New(%d): Used %d, Down %t", most, d.Used(), d.Down())
		}
		gone(t, d, "a")
	}
}

// P3.1: the power of a new disk is bound to nothing.
func TestNewIsNotBound(t *testing.T) {
	d := room(t, 10)
	for range 1000 {
		put(t, d, "a", "x")
		want(t, "Remove a", d.Remove("a"), api.OK)
	}
}

// P3.1: disks have nothing of each other.
func TestDisksAreApart(t *testing.T) {
	d, e := room(t, 3), room(t, 3)
	put(t, d, "a", "xyz")
	lists(t, e)
	put(t, e, "a", "uvw")
	has(t, d, "a", "", "xyz")
	d.Arm(0)
	want(t, "Sync a", d.Sync("a"), api.ErrDown)
	if e.Down() {
		t.Error("another disk's power failed")
	}
	has(t, e, "a", "", "uvw")
}

// P3.1: bytes stand behind each other; what was firm stays so, what is new is loose.
func TestAppend(t *testing.T) {
	d := room(t, 100)
	put(t, d, "a", "xy")
	has(t, d, "a", "", "xy")
	put(t, d, "a", "\x00\xff")
	has(t, d, "a", "", "xy\x00\xff")
	want(t, "Sync a", d.Sync("a"), api.OK)
	has(t, d, "a", "xy\x00\xff", "")
	put(t, d, "a", "z")
	put(t, d, "a", "")
	has(t, d, "a", "xy\x00\xff", "z")
	if d.Used() != 5 {
		t.Errorf("Used %d", d.Used())
	}
}

// P3.1: a file begins by an Append of no bytes, too.
func TestAppendOfNothing(t *testing.T) {
	d := room(t, 0)
	for name, b := range map[string][]byte{"a": nil, "b": {}} {
		want(t, "Append "+name, d.Append(name, b), api.OK)
		has(t, d, name, "", "")
	}
	lists(t, d, "a", "b")
	want(t, "Sync a", d.Sync("a"), api.OK)
	want(t, "Cut a", d.Cut("a", 0), api.OK)
	d.Crash([]int{9})
	lists(t, d, "a", "b")
}

// P3.1: which bytes a name may have, at any place of it.
func TestNameBytes(t *testing.T) {
	d := room(t, 10)
	for x := range 256 {
		wanted := api.ErrFile
		if strings.IndexByte("abcdefghijklmnopqrstuvwxyz0123456789.-", byte(x)) >= 0 {
			wanted = api.OK
		}
		for _, ends := range [][2]string{{"", ""}, {"", "a"}, {"a", ""}, {"a", "a"}, {strings.Repeat("z", api.MaxFile-1), ""}} {
			name := ends[0] + string([]byte{byte(x)}) + ends[1]
			want(t, "Append "+strconv.Quote(name), d.Append(name, nil), wanted)
			if wanted == api.OK {
				want(t, "Rename to "+strconv.Quote(name), d.Rename(name, name), api.OK)
				want(t, "Remove "+strconv.Quote(name), d.Remove(name), api.OK)
			}
			put(t, d, "from", "")
			want(t, "Rename to "+strconv.Quote(name), d.Rename("from", name), wanted)
			d.Remove("from")
			d.Remove(name)
			lists(t, d)
		}
	}
}

// P3.1: how many bytes a name may have.
func TestNameLengths(t *testing.T) {
	for n, wanted := range map[int]api.Errno{
		0: api.ErrFile, 1: api.OK, 2: api.OK, api.MaxFile - 1: api.OK, api.MaxFile: api.OK,
		api.MaxFile + 1: api.ErrFile, 1000: api.ErrFile, 1 << 20: api.ErrFile,
	} {
		d := room(t, 10)
		name := strings.Repeat("n", n)
		want(t, "Append of a name of "+strconv.Itoa(n), d.Append(name, []byte("x")), wanted)
		put(t, d, "a", "y")
		want(t, "Rename to a name of "+strconv.Itoa(n), d.Rename("a", name), wanted)
		if wanted == api.OK {
			lists(t, d, name)
			has(t, d, name, "", "y")
		} else {
			lists(t, d, "a")
			has(t, d, "a", "", "y")
		}
	}
}

// P3.1: room is that of all files together; it comes back with what is gone.
func TestRoom(t *testing.T) {
	d := room(t, 5)
	put(t, d, "a", "xyz")
	want(t, "Append of one beyond", d.Append("b", []byte("uvw")), api.ErrFull)
	gone(t, d, "b")
	want(t, "Append of one beyond", d.Append("a", []byte("uvw")), api.ErrFull)
	has(t, d, "a", "", "xyz")
	putFirm(t, d, "b", "uv")
	want(t, "Append of one beyond", d.Append("a", []byte("!")), api.ErrFull)
	put(t, d, "a", "")
	put(t, d, "c", "")
	want(t, "Cut a", d.Cut("a", 2), api.OK)
	put(t, d, "c", "q")
	want(t, "Append of one beyond", d.Append("c", []byte("!")), api.ErrFull)
	want(t, "Remove b", d.Remove("b"), api.OK)
	put(t, d, "c", "rs")
	want(t, "Rename c a", d.Rename("c", "a"), api.OK)
	if d.Used() != 3 {
		t.Errorf("Used %d", d.Used())
	}
	put(t, d, "d", "12")
	want(t, "Append of one beyond", d.Append("d", []byte("!")), api.ErrFull)
	d.Crash(nil)
	if d.Used() != 0 {
		t.Errorf("Used %d", d.Used())
	}
	put(t, d, "d", "12345")
	want(t, "Append of one beyond", d.Append("d", []byte("!")), api.ErrFull)
}

// P3.1: the most bytes that a disk may have, by one file and by two.
func TestRoomOfTheGreatestDisk(t *testing.T) {
	all := strings.Repeat("x", api.MaxDisk)
	d := room(t, api.MaxDisk)
	want(t, "Append of one beyond", d.Append("a", []byte(all+"y")), api.ErrFull)
	gone(t, d, "a")
	putFirm(t, d, "a", all)
	has(t, d, "a", all, "")
	want(t, "Append of one beyond", d.Append("a", []byte("y")), api.ErrFull)
	want(t, "Append of one beyond", d.Append("b", []byte("y")), api.ErrFull)
	want(t, "Cut a", d.Cut("a", api.MaxDisk-1), api.OK)
	put(t, d, "b", "y")
	want(t, "Append of one beyond", d.Append("b", []byte("y")), api.ErrFull)
	if d.Used() != api.MaxDisk {
		t.Errorf("Used %d", d.Used())
	}
}

// manyFiles is a disk with as many files as there may be, a byte in each, and their names, rising.
func manyFiles(t *testing.T) (*disk.Disk, []string) {
	t.Helper()
	d := room(t, 10_000)
	var names []string
	for i := range api.MaxFiles {
		names = append(names, "f"+strconv.Itoa(i))
		put(t, d, names[i], "x")
	}
	slices.Sort(names)
	return d, names
}

// P3.1: how many files there may be.
func TestMostFiles(t *testing.T) {
	d, names := manyFiles(t)
	lists(t, d, names...)
	want(t, "Append of one file beyond", d.Append("g", []byte("x")), api.ErrFull)
	want(t, "Append of one file beyond", d.Append("g", nil), api.ErrFull)
	gone(t, d, "g")
	put(t, d, "f0", "y")
	want(t, "Rename f1 g", d.Rename("f1", "g"), api.OK)
	want(t, "Append of one file beyond", d.Append("f1", nil), api.ErrFull)
	want(t, "Rename f2 g", d.Rename("f2", "g"), api.OK)
	put(t, d, "f1", "")
	want(t, "Append of one file beyond", d.Append("f2", nil), api.ErrFull)
	want(t, "Remove f1", d.Remove("f1"), api.OK)
	put(t, d, "f2", "")
	want(t, "Append of one file beyond", d.Append("f1", nil), api.ErrFull)
	d.Crash(nil)
	want(t, "Append of one file beyond", d.Append("f1", nil), api.ErrFull)
	if got := len(d.List()); got != api.MaxFiles {
		t.Errorf("%d files", got)
	}
}

// P3.1: Sync makes all bytes of that file firm, and of no other.
func TestSync(t *testing.T) {
	d := room(t, 100)
	put(t, d, "a", "xyz")
	put(t, d, "b", "uv")
	want(t, "Sync a", d.Sync("a"), api.OK)
	want(t, "Sync a", d.Sync("a"), api.OK)
	has(t, d, "a", "xyz", "")
	has(t, d, "b", "", "uv")
	for _, name := range []string{"c", "A", "", "a\x00", strings.Repeat("a", api.MaxFile+1)} {
		want(t, "Sync "+strconv.Quote(name), d.Sync(name), api.ErrFile)
	}
}

// P3.1: Cut leaves the first n, firm, be they firm or loose ahead.
func TestCut(t *testing.T) {
	whole := "xyzuv"
	for n := range len(whole) + 1 {
		for firm := range len(whole) + 1 {
			d := room(t, 100)
			putFirm(t, d, "a", whole[:firm])
			put(t, d, "a", whole[firm:])
			put(t, d, "b", "other")
			for _, wrong := range []int{math.MinInt, -1, len(whole) + 1, math.MaxInt} {
				want(t, "Cut to "+strconv.Itoa(wrong), d.Cut("a", wrong), api.ErrArg)
			}
			has(t, d, "a", whole[:firm], whole[firm:])
			want(t, "Cut to "+strconv.Itoa(n), d.Cut("a", n), api.OK)
			has(t, d, "a", whole[:n], "")
			want(t, "Cut beyond", d.Cut("a", n+1), api.ErrArg)
			put(t, d, "a", "!")
			has(t, d, "a", whole[:n], "!")
			has(t, d, "b", "", "other")
		}
	}
}

// P3.1, P3.2: a file that is not there, by names that may be and that may not.
func TestNoSuchFile(t *testing.T) {
	d := room(t, 100)
	put(t, d, "a", "xyz")
	for _, name := range []string{"b", "aa", "A", "", "a ", strings.Repeat("a", api.MaxFile+1)} {
		told := strconv.Quote(name)
		want(t, "Sync "+told, d.Sync(name), api.ErrFile)
		want(t, "Cut "+told, d.Cut(name, 0), api.ErrFile)
		want(t, "Remove "+told, d.Remove(name), api.ErrFile)
		want(t, "Rename "+told, d.Rename(name, "a"), api.ErrFile)
		want(t, "Rename "+told, d.Rename(name, name), api.ErrFile)
		gone(t, d, name)
	}
	lists(t, d, "a")
	has(t, d, "a", "", "xyz")
}

// P3.2: a file keeps its bytes, firm and loose ones, under its new name.
func TestRename(t *testing.T) {
	d := room(t, 100)
	putFirm(t, d, "a", "xyz")
	put(t, d, "a", "uv")
	want(t, "Rename a b", d.Rename("a", "b"), api.OK)
	gone(t, d, "a")
	has(t, d, "b", "xyz", "uv")
	put(t, d, "a", "new")
	has(t, d, "a", "", "new")
	has(t, d, "b", "xyz", "uv")
	want(t, "Rename b b", d.Rename("b", "b"), api.OK)
	lists(t, d, "a", "b")
	has(t, d, "b", "xyz", "uv")
	want(t, "Rename b B", d.Rename("b", "B"), api.ErrFile)
	want(t, "Rename b to none", d.Rename("b", ""), api.ErrFile)
	has(t, d, "b", "xyz", "uv")
}

// P3.2: another file of the new name is gone, whatever it had.
func TestRenameOntoAnother(t *testing.T) {
	d := room(t, 100)
	putFirm(t, d, "b", "a long text")
	put(t, d, "b", ", longer")
	put(t, d, "a", "q")
	put(t, d, "c", "r")
	want(t, "Rename a b", d.Rename("a", "b"), api.OK)
	lists(t, d, "b", "c")
	has(t, d, "b", "", "q")
	has(t, d, "c", "", "r")
	if d.Used() != 2 {
		t.Errorf("Used %d", d.Used())
	}
	d.Crash(nil)
	lists(t, d, "b", "c")
	has(t, d, "b", "", "")
}

// P3.2: names given to others round about.
func TestRenameRoundAbout(t *testing.T) {
	d := room(t, 100)
	putFirm(t, d, "a", "1")
	put(t, d, "b", "22")
	for _, names := range [][2]string{{"a", "x"}, {"b", "a"}, {"x", "b"}} {
		want(t, "Rename "+names[0], d.Rename(names[0], names[1]), api.OK)
	}
	lists(t, d, "a", "b")
	has(t, d, "a", "", "22")
	has(t, d, "b", "1", "")
	d.Crash([]int{1})
	has(t, d, "a", "2", "")
	has(t, d, "b", "1", "")
}

// P3.2: what is removed is gone, and what is put there again is a new file.
func TestRemove(t *testing.T) {
	d := room(t, 100)
	putFirm(t, d, "a", "xyz")
	put(t, d, "b", "u")
	want(t, "Remove a", d.Remove("a"), api.OK)
	gone(t, d, "a")
	lists(t, d, "b")
	want(t, "Remove a", d.Remove("a"), api.ErrFile)
	put(t, d, "a", "w")
	has(t, d, "a", "", "w")
	want(t, "Remove a", d.Remove("a"), api.OK)
	want(t, "Remove b", d.Remove("b"), api.OK)
	lists(t, d)
	if d.Used() != 0 {
		t.Errorf("Used %d", d.Used())
	}
}

// P3.2: names rise byte by byte, whatever the order in which they came.
func TestListRises(t *testing.T) {
	rising := []string{"-", "-a", ".", "0", "10", "9", "a", "a-", "a.", "a0", "aa", "ab", "b", "z", strings.Repeat("z", api.MaxFile)}
	for turn := range rising {
		d := room(t, 10)
		for i := range rising {
			put(t, d, rising[(i*4+turn)%len(rising)], "")
		}
		lists(t, d, rising...)
	}
}

// P3.2: the sizes, of each file and of all.
func TestSizes(t *testing.T) {
	d := room(t, 100)
	putFirm(t, d, "a", "xyz")
	put(t, d, "a", "u")
	putFirm(t, d, "b", "qr")
	put(t, d, "c", "s")
	for name, wanted := range map[string][2]int{"a": {4, 3}, "b": {2, 2}, "c": {1, 0}, "d": {0, 0}, "A": {0, 0}, "": {0, 0}} {
		if d.Size(name) != wanted[0] || d.Synced(name) != wanted[1] {
			t.Errorf("%q: Size %d, Synced %d", name, d.Size(name), d.Synced(name))
		}
	}
	if d.Used() != 7 {
		t.Errorf("Used %d", d.Used())
	}
	lists(t, d, "a", "b", "c")
}
