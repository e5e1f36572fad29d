package disk_test

import (
	"math"
	"slices"
	"strings"
	"testing"
	"unsafe"

	"homestead/api"
	"homestead/disk"
)

// noDisks are disks that New did not make.
func noDisks(t *testing.T) map[string]*disk.Disk {
	t.Helper()
	made := room(t, 100)
	putFirm(t, made, "a", "xyz")
	copied := *made
	emptied := room(t, 100)
	*emptied = disk.Disk{}
	other := room(t, 100)
	*other = *made
	return map[string]*disk.Disk{"nil": nil, "of zeros": {}, "new": new(disk.Disk), "copied": &copied, "emptied": emptied, "overwritten": other}
}

// R5: no disk answers zeros, and ErrNil ahead of every other error.
func TestNoDisk(t *testing.T) {
	for what, d := range noDisks(t) {
		for name, call := range map[string]func() api.Errno{
			"Append":        func() api.Errno { return d.Append("a", []byte("x")) },
			"Append: name":  func() api.Errno { return d.Append("A", nil) },
			"Append: room":  func() api.Errno { return d.Append("a", make([]byte, 1000)) },
			"Sync":          func() api.Errno { return d.Sync("a") },
			"Sync: name":    func() api.Errno { return d.Sync("") },
			"Rename":        func() api.Errno { return d.Rename("a", "b") },
			"Rename: names": func() api.Errno { return d.Rename("", "") },
			"Remove":        func() api.Errno { return d.Remove("a") },
			"Remove: name":  func() api.Errno { return d.Remove("") },
			"Cut":           func() api.Errno { return d.Cut("a", 0) },
			"Cut: count":    func() api.Errno { return d.Cut("a", math.MinInt) },
		} {
			want(t, what+": "+name, call(), api.ErrNil)
		}
		if b, err := d.Read("a"); len(b) != 0 || err != api.ErrNil {
			t.Errorf("%s: Read: %q, %d", what, b, err)
		}
		d.Arm(0)
		d.Crash([]int{1, 2})
		want(t, what, d.Sync("a"), api.ErrNil)
		if len(d.List()) != 0 || d.Size("a") != 0 || d.Synced("a") != 0 || d.Used() != 0 || d.Down() {
			t.Errorf("%s: List %q, Size %d, Synced %d, Used %d, Down %t", what, d.List(), d.Size("a"), d.Synced("a"), d.Used(), d.Down())
		}
	}
}

// R5: what is done to a copy is not done to the disk.
func TestCopyLeavesTheDisk(t *testing.T) {
	d := room(t, 100)
	putFirm(t, d, "a", "xyz")
	put(t, d, "a", "uv")
	copied := *d
	copied.Append("a", []byte("!"))
	copied.Remove("a")
	copied.Rename("a", "b")
	copied.Cut("a", 0)
	copied.Arm(0)
	copied.Crash(nil)
	lists(t, d, "a")
	has(t, d, "a", "xyz", "uv")
	want(t, "Sync", d.Sync("a"), api.OK)
}

// R3: the disk keeps nothing of what is appended, and changes nothing of it, its spare room neither.
func TestAppendKeepsNothing(t *testing.T) {
	whole := []byte("abcdefgh")
	d := room(t, 100)
	want(t, "Append", d.Append("a", whole[:3]), api.OK)
	want(t, "Append", d.Append("a", whole[2:4]), api.OK)
	put(t, d, "a", "!")
	if string(whole) != "abcdefgh" {
		t.Errorf("handed in bytes became %q", whole)
	}
	for i := range whole {
		whole[i] = '#'
	}
	has(t, d, "a", "", "abccd!")
	whole = []byte("abcdefgh")
	want(t, "Append", d.Append("b", whole[:3]), api.OK)
	want(t, "Append", d.Append("c", whole[:3]), api.OK)
	put(t, d, "b", "1")
	put(t, d, "c", "2")
	has(t, d, "b", "", "abc1")
	has(t, d, "c", "", "abc2")
	if string(whole) != "abcdefgh" {
		t.Errorf("handed in bytes became %q", whole)
	}
}

// R3: what is read shares no memory with the disk, nor with what was read ahead.
func TestReadIsNew(t *testing.T) {
	d := room(t, 1000)
	putFirm(t, d, "a", strings.Repeat("x", 100))
	put(t, d, "a", "yz")
	first, _ := d.Read("a")
	second, _ := d.Read("a")
	spoil(first)
	text := strings.Repeat("x", 100)
	if string(second) != text+"yz" {
		t.Errorf("read ahead: %q", second)
	}
	has(t, d, "a", text, "yz")
	put(t, d, "a", "w")
	spoil(second)
	has(t, d, "a", text, "yzw")
	want(t, "Cut", d.Cut("a", 3), api.OK)
	third, _ := d.Read("a")
	put(t, d, "a", "new")
	if string(third) != "xxx" {
		t.Errorf("read ahead: %q", third)
	}
	spoil(third)
	has(t, d, "a", "xxx", "new")
	d.Crash([]int{1})
	spoil(third)
	put(t, d, "a", "u")
	has(t, d, "a", "xxxn", "u")
}

// spoil writes over all bytes of b, and its spare room.
func spoil(b []byte) {
	b = b[:cap(b)]
	for i := range b {
		b[i] = '#'
	}
}

// R3: the names are told in a new list each time.
func TestListIsNew(t *testing.T) {
	d := room(t, 100)
	put(t, d, "b", "")
	put(t, d, "a", "x")
	first, second := d.List(), d.List()
	first[0], first[1] = "q", "r"
	first = append(first, "s")
	if !slices.Equal(second, []string{"a", "b"}) {
		t.Errorf("told ahead: %q", second)
	}
	lists(t, d, "a", "b")
	d.Crash([]int{1})
	has(t, d, "a", "x", "")
}

// R3: keeps that a crash was handed is not kept.
func TestCrashKeepsNoList(t *testing.T) {
	d := room(t, 100)
	put(t, d, "a", "xyz")
	keeps := []int{1, 9}
	d.Crash(keeps[:1])
	keeps[0] = 3
	put(t, d, "a", "uv")
	put(t, d, "b", "w")
	d.Crash(nil)
	has(t, d, "a", "x", "")
	has(t, d, "b", "", "")
	if keeps[1] != 9 {
		t.Errorf("spare room became %v", keeps)
	}
}

// R3: the disk keeps no name that is handed in: neither one that a file begins by, nor one that it is given.
func TestNamesAreNotKept(t *testing.T) {
	d := room(t, 100)
	first, second := []byte("first"), []byte("second")
	put(t, d, unsafe.String(&first[0], len(first)), "x")
	put(t, d, "other", "y")
	want(t, "Rename", d.Rename("other", unsafe.String(&second[0], len(second))), api.OK)
	spoil(first)
	spoil(second)
	lists(t, d, "first", "second")
	has(t, d, "first", "", "x")
	has(t, d, "second", "", "y")
}

// R3: nor does it keep the name by which a file that is there is called again.
func TestNamesOfOldFilesAreNotKept(t *testing.T) {
	for what, call := range map[string]func(d *disk.Disk, name string) api.Errno{
		"Append":           func(d *disk.Disk, name string) api.Errno { return d.Append(name, []byte("y")) },
		"Sync":             func(d *disk.Disk, name string) api.Errno { return d.Sync(name) },
		"Cut":              func(d *disk.Disk, name string) api.Errno { return d.Cut(name, 1) },
		"Rename":           func(d *disk.Disk, name string) api.Errno { return d.Rename("b", name) },
		"Rename to itself": func(d *disk.Disk, name string) api.Errno { return d.Rename(name, name) },
	} {
		d := room(t, 100)
		put(t, d, "first", "x")
		put(t, d, "b", "z")
		name := []byte("first")
		want(t, what, call(d, unsafe.String(&name[0], len(name))), api.OK)
		spoil(name)
		if d.Size("first") == 0 || d.List()[len(d.List())-1] != "first" {
			t.Errorf("%s: List %q, first has %d bytes", what, d.List(), d.Size("first"))
		}
	}
}
