package pages_test

import (
	"maps"
	"math"
	"slices"
	"strconv"
	"strings"
	"testing"

	"homestead/api"
	"homestead/disk"
	"homestead/pages"
)

// isCommit complains unless these files have a commit with these keys and blobs, and Open leaves what it should, once it has removed the others, by rising names.
func isCommit(t *testing.T, what string, stands files, number int, others []string, pairs ...string) {
	t.Helper()
	t.Run(what, func(t *testing.T) {
		t.Helper()
		left := maps.Clone(stands)
		for armed, name := range others {
			d := lay(t, stands)
			d.Arm(armed)
			s, err := pages.Open(d, number)
			if s != nil || err != api.ErrDown || !d.Down() {
				t.Errorf("armed for %d: %v, %d", armed, s, err)
			}
			lies(t, d, left)
			delete(left, name)
		}
		d := lay(t, stands)
		d.Arm(len(others))
		s := open(t, d, number)
		tells(t, s, number, pairs...)
		lies(t, d, left)
		want(t, "a step behind Open", d.Append("x", nil), api.ErrDown)
	})
}

// lies is like of a disk that may be down: it asks for names and counts alone.
func lies(t *testing.T, d *disk.Disk, wanted files) {
	t.Helper()
	lists(t, d, slices.Sorted(maps.Keys(wanted))...)
	for name, text := range wanted {
		if d.Size(name) != len(text) || d.Synced(name) != len(text) {
			t.Errorf("%s: %d bytes, %d firm; not %d", name, d.Size(name), d.Synced(name), len(text))
		}
	}
}

// isNone complains unless these files have no such commit, and stay as they are.
func isNone(t *testing.T, what string, stands files, number int) {
	t.Helper()
	t.Run(what, func(t *testing.T) {
		t.Helper()
		stands = maps.Clone(stands)
		for _, name := range []string{"i.new", "c99", "i99"} {
			if _, there := stands[name]; !there {
				stands[name] = "other"
			}
		}
		d := lay(t, stands)
		d.Arm(0)
		s, err := pages.Open(d, number)
		if s != nil || err != api.ErrLog || d.Down() {
			t.Errorf("%v, %d; down %t", s, err, d.Down())
		}
		like(t, d, stands)
	})
}

// P5.1: which numbers a commit may have.
func TestOpenNumbers(t *testing.T) {
	for number, wanted := range map[int]api.Errno{
		math.MinInt: api.ErrArg, -5: api.ErrArg, -1: api.ErrArg, 0: api.OK, 1: api.ErrLog, 5: api.OK, 6: api.ErrLog,
		maxNumber - 1: api.ErrLog, maxNumber: api.OK, maxNumber + 1: api.ErrArg, math.MaxInt: api.ErrArg,
	} {
		d := lay(t, files{
			"i5": index(5), "i9007199254740992": index(maxNumber), "i9007199254740993": index(maxNumber + 1),
			"i0": index(0), "i-5": index(5), "i-1": index(1),
		})
		s, err := pages.Open(d, number)
		want(t, "Open of "+strconv.Itoa(number), err, wanted)
		if (s != nil) != (wanted == api.OK) {
			t.Errorf("Open of %d: %v", number, s)
		}
		if left := len(d.List()); wanted != api.OK && left != 6 {
			t.Errorf("Open of %d leaves %d files", number, left)
		}
	}
}

// P5.1: commits, and which files go.
func TestWholeCommits(t *testing.T) {
	isCommit(t, "none", files{}, 0, nil)
	isCommit(t, "none, with others", files{"i1": index(1), "c1": "x", "i.new": "", "i0": "y", "c0": index(0)}, 0, []string{"c1", "i.new", "i1"})
	isCommit(t, "no keys", files{"i1": index(1)}, 1, nil)
	isCommit(t, "no keys, but packs", files{"i2": index(2), "c1": "x", "c2": "y"}, 2, []string{"c1", "c2"})
	isCommit(t, "one key", files{"i1": index(1, spot{"a", 1, 0, 3}), "c1": "xyz"}, 1, nil, "a", "xyz")
	isCommit(t, "packs of elder numbers", files{"i9": index(9, spot{"a", 1, 0, 1}, spot{"b", 9, 0, 1}, spot{"c", 8, 0, 1}), "c1": "x", "c8": "y", "c9": "z"},
		9, nil, "a", "x", "b", "z", "c", "y")
	isCommit(t, "parts of a pack", files{"i1": index(1, spot{"a", 1, 2, 1}, spot{"b", 1, 0, 2}, spot{"c", 1, 4, 3}), "c1": "stuvwxyz"},
		1, nil, "a", "u", "b", "st", "c", "wxy")
	isCommit(t, "upon one another", files{"i1": index(1, spot{"a", 1, 0, 3}, spot{"b", 1, 1, 3}, spot{"c", 1, 0, 3}), "c1": "wxyz"},
		1, nil, "a", "wxy", "b", "xyz", "c", "wxy")
	isCommit(t, "nothing of packs", files{"i2": index(2, spot{"a", 1, 0, 0}, spot{"b", 2, 1, 0}, spot{"c", 2, 0, 0}), "c1": "", "c2": "x"},
		2, nil, "a", "", "b", "", "c", "")
	others := files{
		"i.new": index(3), "i1": "", "i2": index(2), "i3": index(3, spot{"a", 2, 0, 1}), "i4": "", "i10": index(10),
		"c1": "x", "c2": "y", "c3": "z", "c10": "z", "c20": "", "i9007199254740992": "", "c9007199254740992": "",
	}
	isCommit(t, "among others", others, 3, []string{
		"c1", "c10", "c20", "c3", "c9007199254740992", "i.new", "i1", "i10", "i2", "i4", "i9007199254740992",
	}, "a", "y")
}

// P5.1: as many packs as stand there, though Commit makes no commit of more than sixteen.
func TestManyPacks(t *testing.T) {
	stands := files{}
	var spots []spot
	var pairs []string
	for n := 1; n < api.MaxFiles-1; n++ { // beside them the index, and room for one more
		key := "k" + strconv.Itoa(100+n)
		spots = append(spots, spot{key, n, 0, len(key)})
		stands["c"+strconv.Itoa(n)] = key
		pairs = append(pairs, key, key)
	}
	stands["i200"] = index(200, spots...)
	isCommit(t, "packs", stands, 200, nil, pairs...)
}

// P5.1, P5.5: files of other names are nobody's, whatever they have.
func TestOtherNames(t *testing.T) {
	stands := files{}
	for _, rest := range []string{
		"", "0", "00", "07", "-7", "7.", ".7", "7a", "7-", "a7", "1e3", "0x7", "-", ".", ".new.", "new", ".ne", ".new1", "1.new", "-1",
		"9007199254740993", "9223372036854775807", "9223372036854775808", "18446744073709551623", strings.Repeat("9", 39),
	} {
		stands["i"+rest] = index(7)
		stands["c"+rest] = "other"
	}
	for _, name := range []string{"c.new", "7", "w7", "ii7", "ci7", "ic7", "cc7", "x.new", "root.new", "root0", "new", ".new", "d7", "h7", "j7", "b7"} {
		stands[name] = "other"
	}
	isCommit(t, "none", stands, 0, nil)
	stands["i7"] = index(7, spot{"a", 6, 0, 1})
	stands["c6"] = "x"
	isCommit(t, "among others", stands, 7, nil, "a", "x")
	stands["i6"] = "gone"
	isCommit(t, "with one", stands, 7, []string{"i6"}, "a", "x")
	d := lay(t, stands)
	s := open(t, d, 7)
	free(t, s)
	delete(stands, "i6")
	like(t, d, stands)
}

// P5.1: an index has to be one, byte by byte, and of that number.
func TestSpoiltIndexes(t *testing.T) {
	whole := index(7, spot{"a", 6, 0, 3}, spot{"bc", 7, 1, 2})
	with := func(text string) files { return files{"i7": text, "c6": "xyz", "c7": "xyz"} }
	isCommit(t, "whole", with(whole), 7, nil, "a", "xyz", "bc", "yz")
	for n := range len(whole) {
		isNone(t, strconv.Itoa(n)+" bytes", with(whole[:n]), 7)
		isNone(t, strconv.Itoa(n)+" bytes, sealed", with(sealed(whole[:min(n, len(whole)-5)])), 7)
		for _, bit := range []byte{1, 128} {
			isNone(t, "byte "+strconv.Itoa(n)+" turned", with(whole[:n]+string([]byte{whole[n] ^ bit})+whole[n+1:]), 7)
		}
	}
	for _, more := range []string{"\x00", "\x01", "\x80", whole} {
		isNone(t, "more behind: "+strconv.Quote(more), with(whole+more), 7)
		isNone(t, "more ahead: "+strconv.Quote(more), with(more+whole), 7)
		isNone(t, "more sealed: "+strconv.Quote(more), with(sealed(bare(7, spot{"a", 6, 0, 3})+more)), 7)
	}
	isNone(t, "no seal", with(bare(7, spot{"a", 6, 0, 3})), 7)
	isNone(t, "another one's", with(index(6, spot{"a", 6, 0, 3})), 7)
	isNone(t, "nobody's", with(sealed("HSI1\x00\x00")), 7)
	for _, magic := range []string{"HSW1", "HSR1", "HSI2", "hsi1", "HSI", "HSI1\x00", ""} {
		isNone(t, "magic "+strconv.Quote(magic), with(sealed(magic+"\x07\x00")), 7)
	}
	isNone(t, "noughts", with(strings.Repeat("\x00", 30)), 7)
	isNone(t, "nothing sealed", with(sealed("")), 7)
	isNone(t, "under another name", files{"i.new": whole, "i6": whole, "i8": whole, "c6": "xyz", "c7": "xyz"}, 7)
}

// P5.1: numbers that are no varints, or too great, are none of an index.
func TestSpoiltNumbers(t *testing.T) {
	huge, over := varint(maxNumber)[:7]+"\xff\x01", strings.Repeat("\xff", 9)+"\x01"
	for what, text := range map[string]string{
		"long number":     "HSI1\x87\x00\x00",
		"huge number":     "HSI1" + over + "\x00",
		"long count":      "HSI1\x07\x81\x00\x01a\x07\x00\x03",
		"huge count":      "HSI1\x07" + over + "\x01a\x07\x00\x03",
		"less than count": "HSI1\x07\x02\x01a\x07\x00\x03",
		"more than count": "HSI1\x07\x00\x01a\x07\x00\x03",
		"long key length": "HSI1\x07\x01\x81\x00a\x07\x00\x03",
		"huge key length": "HSI1\x07\x01" + over + "a\x07\x00\x03",
		"long pack":       "HSI1\x07\x01\x01a\x87\x00\x00\x03",
		"huge pack":       "HSI1\x07\x01\x01a" + over + "\x00\x03",
		"great pack":      "HSI1\x07\x01\x01a" + huge + "\x00\x03",
		"long place":      "HSI1\x07\x01\x01a\x07\x80\x00\x03",
		"huge place":      "HSI1\x07\x01\x01a\x07" + over + "\x03",
		"place about":     "HSI1\x07\x01\x01a\x07\xfd\xff\xff\xff\xff\xff\xff\xff\xff\x01\x03",
		"great place":     "HSI1\x07\x01\x01a\x07" + huge + "\x00",
		"long length":     "HSI1\x07\x01\x01a\x07\x00\x83\x00",
		"huge length":     "HSI1\x07\x01\x01a\x07\x00" + over,
		"length about":    "HSI1\x07\x01\x01a\x07\x03\xfd\xff\xff\xff\xff\xff\xff\xff\xff\x01",
		"wrong length":    "HSI1\x07\x01\x01a\x07\x00" + strings.Repeat("\xff", 10),
	} {
		isNone(t, what, files{"i7": sealed(text), "c7": "xyz"}, 7)
	}
	isCommit(t, "right", files{"i7": sealed("HSI1\x07\x01\x01a\x07\x00\x03"), "c7": "xyz"}, 7, nil, "a", "xyz")
}

// P5.1: keys are keys, rise, and name packs from 1 to the commit's that are there, with all their bytes.
func TestNoSuchKeys(t *testing.T) {
	long := strings.Repeat("k", api.MaxKey)
	for what, spots := range map[string][]spot{
		"no byte":           {{"", 7, 0, 1}},
		"a long key":        {{long + "k", 7, 0, 1}},
		"falling":           {{"b", 7, 0, 1}, {"a", 7, 0, 1}},
		"the same":          {{"a", 7, 0, 1}, {"a", 7, 0, 1}},
		"the same, others":  {{"a", 7, 0, 1}, {"a", 6, 1, 2}},
		"falling by length": {{"ab", 7, 0, 1}, {"a", 7, 0, 1}},
		"falling by signs":  {{"\x80", 7, 0, 1}, {"z", 7, 0, 1}},
		"pack 0":            {{"a", 0, 0, 1}},
		"pack beyond":       {{"a", 8, 0, 1}},
		"pack far beyond":   {{"a", 99, 0, 1}},
		"no pack":           {{"a", 5, 0, 1}},
		"no pack of none":   {{"a", 5, 0, 0}},
		"no second pack":    {{"a", 7, 0, 1}, {"b", 4, 0, 1}},
		"beyond the end":    {{"a", 7, 0, 4}},
		"from 1 beyond":     {{"a", 7, 1, 3}},
		"none from beyond":  {{"a", 7, 4, 0}},
		"one at the end":    {{"a", 7, 3, 1}},
		"far beyond":        {{"a", 7, 1 << 24, 1}},
		"one of two":        {{"a", 7, 0, 3}, {"b", 7, 2, 2}},
		"of an empty pack":  {{"a", 3, 0, 1}},
	} {
		isNone(t, what, files{"i7": index(7, spots...), "c7": "xyz", "c6": "uvw", "c8": "xyz", "c0": "xyz", "c3": ""}, 7)
	}
	isCommit(t, "right", files{"i7": index(7, spot{"k", 6, 0, 1}, spot{long, 7, 0, 3}, spot{long[1:] + "l", 7, 3, 0}, spot{"\x80", 3, 0, 0}), "c7": "xyz", "c6": "u", "c3": ""},
		7, nil, "k", "u", long, "xyz", long[1:]+"l", "", "\x80", "")
}

// P5.1: as many keys as there may be, and as long blobs; and one beyond.
func TestLimitsOfIndexes(t *testing.T) {
	text := strings.Repeat("x", api.MaxBlob) + "yz"
	isCommit(t, "a long blob", files{"i7": index(7, spot{"a", 7, 2, api.MaxBlob}), "c7": text}, 7, nil, "a", text[2:])
	isNone(t, "too long a blob", files{"i7": index(7, spot{"a", 7, 0, api.MaxBlob + 1}), "c7": text}, 7)
	var spots []spot
	var pairs []string
	for _, key := range manyKeys(api.MaxKeys + 1) {
		spots = append(spots, spot{key, 7, 0, 2})
		pairs = append(pairs, key, "xx")
	}
	isCommit(t, "many keys", files{"i7": index(7, spots[1:]...), "c7": "xx"}, 7, nil, pairs[2:]...)
	isNone(t, "too many keys", files{"i7": index(7, spots...), "c7": "xx"}, 7)
}

// P5.1: of several errors the first one counts.
func TestErrorsOfOpen(t *testing.T) {
	var none *disk.Disk
	copied := *lay(t, files{"i7": index(7)})
	for what, d := range map[string]*disk.Disk{"nil": none, "of zeros": {}, "copied": &copied} {
		for number, wanted := range map[int]api.Errno{-1: api.ErrArg, maxNumber + 1: api.ErrArg, 0: api.ErrNil, 1: api.ErrNil, 7: api.ErrNil} {
			s, err := pages.Open(d, number)
			if s != nil || err != wanted {
				t.Errorf("%s: Open of %d: %v, %d", what, number, s, err)
			}
		}
	}
	for _, stands := range []files{{"i7": index(7), "i8": "spoilt"}, {"i7": index(7)}, {}} {
		d := lay(t, stands)
		d.Arm(0)
		want(t, "a step", d.Append("x", nil), api.ErrDown)
		for number, wanted := range map[int]api.Errno{-1: api.ErrArg, maxNumber + 1: api.ErrArg, 0: api.ErrDown, 7: api.ErrDown, 8: api.ErrDown, 9: api.ErrDown} {
			s, err := pages.Open(d, number)
			if s != nil || err != wanted {
				t.Errorf("down: Open of %d: %v, %d", number, s, err)
			}
		}
		d.Crash(nil)
		like(t, d, stands)
	}
}

// P5.1: what Open reads stays as it is, loose bytes too.
func TestOpenLeavesLooseBytes(t *testing.T) {
	d := lay(t, files{"c1": "x"})
	want(t, "Append i1", d.Append("i1", []byte(index(1, spot{"a", 1, 0, 3}))), api.OK)
	want(t, "Append c1", d.Append("c1", []byte("yz")), api.OK)
	want(t, "Append x", d.Append("x", []byte("other")), api.OK)
	tells(t, open(t, d, 1), 1, "a", "xyz")
	if d.Synced("i1") != 0 || d.Synced("c1") != 1 || d.Synced("x") != 0 {
		t.Errorf("i1 %d, c1 %d, x %d", d.Synced("i1"), d.Synced("c1"), d.Synced("x"))
	}
}
