package wal_test

import (
	"maps"
	"slices"
	"strconv"
	"strings"
	"testing"

	"homestead/api"
	"homestead/disk"
	"homestead/wal"
)

// files are a disk's, by their names.
type files = map[string]string

// like complains unless a disk has these files, and nothing of them is loose.
func like(t *testing.T, d *disk.Disk, wanted files) {
	t.Helper()
	lists(t, d, slices.Sorted(maps.Keys(wanted))...)
	for name, text := range wanted {
		has(t, d, name, text, "")
	}
}

// isJournal complains unless these files are a journal with the records of these texts, numbered from n on, and Open leaves what it should, in so many steps.
func isJournal(t *testing.T, what string, stands, left files, steps, n int, texts ...string) {
	t.Helper()
	t.Run(what, func(t *testing.T) {
		t.Helper()
		for armed := range steps {
			d := lay(t, stands)
			d.Arm(armed)
			l, got, err := wal.Open(d, 64)
			if l != nil || len(got) > 0 || err != api.ErrDown || !d.Down() {
				t.Errorf("armed for %d: %v, %v, %d", armed, l, got, err)
			}
		}
		d := lay(t, stands)
		d.Arm(steps)
		l, got := open(t, d, 64)
		records(t, got, n, texts...)
		like(t, d, left)
		want(t, "a step behind Open", d.Append("x", nil), api.ErrDown)
		if l.Last() != max(n+len(texts)-1, 0) || l.Synced() != l.Last() || l.Over() {
			t.Errorf("Last %d, Synced %d, Over %t", l.Last(), l.Synced(), l.Over())
		}
	})
}

// isNone complains unless these files are no journal, and stay as they are.
func isNone(t *testing.T, what string, stands files) {
	t.Helper()
	t.Run(what, func(t *testing.T) {
		t.Helper()
		d := lay(t, stands)
		want(t, "Append x", d.Append("x", []byte("loose")), api.OK)
		d.Arm(0)
		l, got, err := wal.Open(d, 64)
		if l != nil || len(got) > 0 || err != api.ErrLog || d.Down() {
			t.Errorf("%v, %v, %d; down %t", l, got, err, d.Down())
		}
		d.Crash([]int{0, 0, 0, 0, 0, 0})
		stands = maps.Clone(stands)
		stands["x"] = ""
		like(t, d, stands)
	})
}

// P4.1: journals that need nothing but a Sync, or not even that.
func TestWholeJournals(t *testing.T) {
	for what, c := range map[string]struct {
		stands files
		steps  int
		n      int
		texts  []string
	}{
		"none":               {files{}, 0, 0, nil},
		"a head":             {files{"w7": head(7)}, 1, 7, nil},
		"one":                {files{"w7": segment(7, "a")}, 1, 7, []string{"a"}},
		"from 1 on":          {files{"w1": segment(1, "", "b", "")}, 1, 1, []string{"", "b", ""}},
		"two":                {files{"w7": segment(7, "a", "b"), "w9": segment(9, "c")}, 1, 7, []string{"a", "b", "c"}},
		"a head behind one":  {files{"w7": segment(7, "a", "b"), "w9": head(9)}, 1, 7, []string{"a", "b"}},
		"not as names rise":  {files{"w9": segment(9, "a"), "w10": segment(10, "b"), "w11": segment(11, "c")}, 1, 9, []string{"a", "b", "c"}},
		"the greatest":       {files{"w9007199254740992": segment(maxNumber, "a")}, 1, maxNumber, []string{"a"}},
		"the greatest alone": {files{"w9007199254740992": head(maxNumber)}, 1, maxNumber, nil},
		"text like a head":   {files{"w7": segment(7, head(8)+frame(8, "b"))}, 1, 7, []string{head(8) + frame(8, "b")}},
	} {
		isJournal(t, what, c.stands, c.stands, c.steps, c.n, c.texts...)
	}
}

// P4.1: files of other names are nobody's, whatever they have.
func TestOtherNames(t *testing.T) {
	others := files{}
	for _, name := range []string{
		"w", "w0", "w00", "w07", "w-7", "w7.", "w.7", "w7a", "w7-", "ww7", "x7", "7", "0w7", "w7w", "w1e3", "w0x7", "w-",
		"w9007199254740993", "w9223372036854775807", "w9223372036854775808", "w18446744073709551623", "w" + strings.Repeat("9", 39),
	} {
		others[name] = segment(7, "other")
	}
	isJournal(t, "alone", others, others, 0, 0)
	for name, text := range (files{"w7": segment(7, "a"), "w8": segment(8, "b")}) {
		others[name] = text
	}
	isJournal(t, "among others", others, others, 1, 7, "a", "b")
	left := maps.Clone(others)
	others["w9"] = "torn"
	isJournal(t, "with a torn one", others, left, 2, 7, "a", "b")
}

// P4.1: a last file whose head is not there wholly, or is another one's, is none of the segments, and goes.
func TestTornHeads(t *testing.T) {
	torn := map[string]string{
		"another one's":  head(8),
		"another one's+": segment(10, "c"),
		"noughts":        strings.Repeat("\x00", 30),
		"another magic":  sealed("HSI1\x09") + frame(9, "c"),
		"a long varint":  sealed("HSW1\x89\x00") + frame(9, "c"),
	}
	whole := head(9)
	for n := range len(whole) {
		torn[strconv.Itoa(n)+" bytes"] = whole[:n]
		torn["byte "+strconv.Itoa(n)+" other"] = whole[:n] + string([]byte{whole[n] ^ 1}) + whole[n+1:] + frame(9, "c")
	}
	for what, text := range torn {
		ahead := files{"w7": segment(7, "a"), "w8": segment(8, "b")}
		isJournal(t, what+", alone", files{"w9": text}, files{}, 1, 0)
		isJournal(t, what+", behind others", files{"w7": ahead["w7"], "w8": ahead["w8"], "w9": text}, ahead, 2, 7, "a", "b")
		isJournal(t, what+", with a gap", files{"w7": ahead["w7"], "w9": text}, files{"w7": ahead["w7"]}, 2, 7, "a")
		isNone(t, what+", not the last one", files{"w9": text, "w10": segment(10, "c")})
		isNone(t, what+", twice", files{"w7": ahead["w7"], "w8": ahead["w8"], "w9": text, "w100": text})
		isNone(t, what+", behind a head", files{"w8": head(8), "w9": text})
		isNone(t, what+", behind a torn record", files{"w7": ahead["w7"], "w8": ahead["w8"] + "\x02", "w9": text})
		isNone(t, what+", behind a gap", files{"w5": segment(5, "c"), "w7": ahead["w7"], "w9": text})
	}
}

// P4.1: segments but the last one have records, nothing behind them, and each the number that comes next.
func TestNoJournals(t *testing.T) {
	isNone(t, "a gap", files{"w7": segment(7, "a"), "w9": segment(9, "c")})
	isNone(t, "a gap ahead of a head", files{"w7": segment(7, "a"), "w9": head(9)})
	isNone(t, "one too low", files{"w7": segment(7, "a", "b"), "w8": segment(8, "c")})
	isNone(t, "one too low, a head", files{"w7": segment(7, "a", "b"), "w8": head(8)})
	isNone(t, "a gap ahead", files{"w5": segment(5, "a"), "w7": segment(7, "b"), "w8": segment(8, "c")})
	isNone(t, "no records", files{"w7": head(7), "w8": segment(8, "b")})
	isNone(t, "no records between", files{"w6": segment(6, "a"), "w7": head(7), "w8": head(8)})
	isNone(t, "another one's head ahead", files{"w7": segment(8, "a"), "w8": segment(8, "b")})
	isNone(t, "an empty file ahead", files{"w7": "", "w8": segment(8, "b")})
	whole := segment(7, "a", "b")
	for n := range len(whole) {
		isNone(t, "lacking bytes from "+strconv.Itoa(n), files{"w7": whole[:n], "w9": segment(9, "c")})
		turned := whole[:n] + string([]byte{whole[n] ^ 4}) + whole[n+1:]
		isNone(t, "turned at "+strconv.Itoa(n), files{"w7": turned, "w9": segment(9, "c")})
	}
	for _, more := range []string{"\x00", "\x02", "\x80", frame(7, "c"), frame(10, "c"), head(9)} {
		isNone(t, "more behind: "+strconv.Quote(more), files{"w7": whole + more, "w9": segment(9, "c")})
	}
	isNone(t, "a record of the next one", files{"w7": whole + frame(9, "c"), "w9": segment(9, "c")})
}

// noFrames are bytes that are no frame of the record 9, each by what is wrong.
func noFrames() map[string]string {
	one := frame(9, "text")
	body := "\x09text"
	wrong := map[string]string{
		"the one ahead":     frame(8, "text"),
		"the one behind":    frame(10, "text"),
		"nought":            frame(0, "text"),
		"no body":           "\x00" + sealed(""),
		"no number":         "\x01" + sealed("\x89"),
		"a long number":     "\x06" + sealed("\x89\x00text"),
		"a wrong number":    "\x0b" + sealed(strings.Repeat("\xff", 10)+"t"),
		"a long length":     "\x85\x00" + sealed(body),
		"a wrong length":    strings.Repeat("\xff", 10) + sealed(body),
		"a huge length":     "\xff\xff\xff\xff\xff\xff\xff\xff\xff\x01" + sealed(body),
		"a great length":    "\xff\xff\xff\xff\xff\xff\xff\xff\x7f" + sealed(body),
		"all but the seal":  "\xfc\xff\xff\xff\xff\xff\xff\xff\xff\x01" + sealed(body),
		"the seal's length": "\x09" + sealed(body),
		"one less":          "\x04" + sealed(body),
		"one more":          "\x06" + sealed(body),
		"noughts":           strings.Repeat("\x00", 40),
		"a head":            head(9),
		"a sum turned":      "\x05" + body + "\x00\x00\x00\x00",
	}
	for n := 1; n < len(one); n++ {
		wrong[strconv.Itoa(n)+" bytes"] = one[:n]
	}
	for n := range len(one) {
		wrong["byte "+strconv.Itoa(n)+" turned"] = one[:n] + string([]byte{one[n] ^ 8}) + one[n+1:]
	}
	return wrong
}

// P4.1: what is behind the last segment's records is cut off, be it torn, or wrong, or a frame behind such.
func TestTornRecords(t *testing.T) {
	for what, text := range noFrames() {
		left := files{"w7": segment(7, "a", "b")}
		isJournal(t, what, files{"w7": left["w7"] + text}, left, 2, 7, "a", "b")
		left = files{"w7": segment(7, "a"), "w8": segment(8, "b")}
		isJournal(t, what+", behind another segment", files{"w7": left["w7"], "w8": left["w8"] + text}, left, 2, 7, "a", "b")
		left = files{"w9": head(9)}
		isJournal(t, what+", behind a head", files{"w9": head(9) + text}, left, 2, 9)
		if strings.HasSuffix(what, "bytes") {
			continue // what is added might make it whole
		}
		left = files{"w7": segment(7, "a", "b")}
		isJournal(t, what+", more behind", files{"w7": left["w7"] + text + frame(9, "c")}, left, 2, 7, "a", "b")
	}
}

// P4.1: a record that was torn can be appended anew, and stands where it stood.
func TestAppendBehindTorn(t *testing.T) {
	d := lay(t, files{"w7": segment(7, "a") + frame(8, strings.Repeat("torn", 100))[:90]})
	l, _ := open(t, d, 64)
	put(t, l, 8, "b")
	tells(t, l, 7, 8, 7, "w7")
	has(t, d, "w7", segment(7, "a"), frame(8, "b"))
}

// P4.1, P4.2: how many bytes the last segment has is known behind Open, too.
func TestSizeBehindOpen(t *testing.T) {
	for _, torn := range []string{"", "torn"} {
		for more := range 3 {
			text := strings.Repeat("x", 64-1-len(segment(7, ""))+more)
			d := lay(t, files{"w7": segment(7, text) + torn})
			l, _ := open(t, d, 64)
			put(t, l, 8, "b")
			if more == 0 {
				tells(t, l, 7, 8, 7, "w7")
			} else {
				tells(t, l, 7, 8, 7, "w7", "w8")
			}
		}
	}
}

// P4.1: what is read is synced, so that a crash behind Open takes nothing of it.
func TestOpenSyncs(t *testing.T) {
	d := room(t, 1000)
	l, _ := open(t, d, 64)
	put(t, l, 7, "a")
	put(t, l, 8, "b")
	tells(t, l, 7, 8, 6, "w7")
	l, got := open(t, d, 64)
	records(t, got, 7, "a", "b")
	tells(t, l, 7, 8, 8, "w7")
	d.Crash(nil)
	l, got = open(t, d, 64)
	records(t, got, 7, "a", "b")
	tells(t, l, 7, 8, 8, "w7")
}

// P4.1: a disk that is down cannot be read, whatever stands on it, nor can none; the size comes first.
func TestOpenCannotRead(t *testing.T) {
	for what, stands := range map[string]files{
		"nothing": {}, "another file": {"x": "y"}, "a segment": {"w7": segment(7, "a")}, "no journal": {"w7": "", "w8": ""}, "a torn one": {"w7": ""},
	} {
		d := lay(t, stands)
		d.Arm(0)
		want(t, "Append", d.Append("q", nil), api.ErrDown)
		l, got, err := wal.Open(d, 64)
		if l != nil || len(got) > 0 || err != api.ErrDown {
			t.Errorf("%s: %v, %v, %d", what, l, got, err)
		}
		_, _, err = wal.Open(d, 63)
		want(t, what+": size", err, api.ErrArg)
	}
	copied := *lay(t, files{"w7": segment(7, "a")})
	for what, d := range map[string]*disk.Disk{"nil": nil, "of zeros": {}, "copied": &copied} {
		l, got, err := wal.Open(d, 64)
		if l != nil || len(got) > 0 || err != api.ErrNil {
			t.Errorf("%s: %v, %v, %d", what, l, got, err)
		}
		_, _, err = wal.Open(d, 63)
		want(t, what+": size", err, api.ErrArg)
	}
}
