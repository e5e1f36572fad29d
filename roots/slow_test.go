package roots_test

import (
	"encoding/binary"
	"math"
	"slices"
	"strconv"
	"strings"
	"testing"

	"homestead/api"
	"homestead/disk"
	"homestead/roots"
)

// isSlowRight tells whether a root is a right one.
func isSlowRight(r api.Root) bool {
	return r.Serial >= 1 && r.Serial <= maxNumber && r.Tick >= 0 && r.Tick <= maxNumber && r.Commit >= 0 && r.Commit <= maxNumber && len(r.Blob) <= 1<<20
}

// slowParse looks for the root whose bytes some are: it takes its parts as they come, and then asks whether the bytes of these are those.
func slowParse(b string) (api.Root, api.Errno) {
	if len(b) < 4 {
		return api.Root{}, api.ErrShort
	}
	body := b[:len(b)-4]
	if sealed(body) != b {
		return api.Root{}, api.ErrSum
	}
	rest := strings.TrimPrefix(body, "HSR1")
	next := func() int {
		n, bytes := binary.Uvarint([]byte(rest))
		rest = rest[max(bytes, 0):]
		return int(min(n, 1<<60))
	}
	r := api.Root{Serial: next(), Tick: next(), Commit: next()}
	next()
	r.Blob = []byte(rest)
	if !isSlowRight(r) || bare(r) != body {
		return api.Root{}, api.ErrBytes
	}
	return r, api.OK
}

// slowRead follows the chapter's words one by one.
func slowRead(d *disk.Disk) (counts api.Root, there bool, err api.Errno) {
	for _, name := range []string{"root0", "root1"} {
		b, err := d.Read(name)
		if err != api.OK && err != api.ErrFile {
			return api.Root{}, false, err
		}
		r, wrong := slowParse(string(b))
		isItsName := strings.HasSuffix(name, strconv.Itoa(r.Serial%2))
		if wrong == api.OK && isItsName && (!there || r.Serial > counts.Serial) {
			counts, there = r, true
		}
	}
	return counts, there, api.OK
}

// slowWrite follows the chapter's words one by one.
func slowWrite(d *disk.Disk, r api.Root) (api.Root, api.Errno) {
	counts, there, err := slowRead(d)
	if err != api.OK {
		return api.Root{}, err
	}
	if there && counts.Serial == maxNumber {
		return api.Root{}, api.ErrArg
	}
	r.Serial = 1
	if there {
		r.Serial = counts.Serial + 1
	}
	if len(r.Blob) > 1<<20 {
		short := r
		short.Blob = nil
		if isSlowRight(short) {
			return api.Root{}, api.ErrLong
		}
	}
	if !isSlowRight(r) {
		return api.Root{}, api.ErrArg
	}
	if slices.Contains(d.List(), "root.new") {
		if err := d.Remove("root.new"); err != api.OK {
			return api.Root{}, err
		}
	}
	if err := d.Append("root.new", []byte(text(r))); err != api.OK {
		return api.Root{}, err
	}
	if err := d.Sync("root.new"); err != api.OK {
		return api.Root{}, err
	}
	if err := d.Rename("root.new", "root"+strconv.Itoa(r.Serial%2)); err != api.OK {
		return api.Root{}, err
	}
	return r, api.OK
}

// stands is all that a disk has, be it down or not.
func stands(d *disk.Disk) string {
	var all []string
	for _, name := range d.List() {
		b, _ := d.Read(name)
		all = append(all, name, strconv.Itoa(d.Size(name)), strconv.Itoa(d.Synced(name)), string(b))
	}
	return strings.Join(append(all, strconv.FormatBool(d.Down())), " ")
}

// reader takes a script's bytes one by one; behind its end there are noughts.
type reader struct{ rest string }

func (r *reader) next() int {
	if r.rest == "" {
		return 0
	}
	x := r.rest[0]
	r.rest = r.rest[1:]
	return int(x)
}

// number takes one, most often a right one.
func (r *reader) number() int {
	switch n := r.next(); n {
	case 0, 1, 2, 3:
		return []int{-1, math.MinInt, math.MaxInt, maxNumber + 1}[n]
	case 4, 5, 6:
		return maxNumber + 4 - n
	default:
		return (n - 7) * (1 + r.next()*r.next())
	}
}

// root takes one.
func (r *reader) root() api.Root {
	return root(r.number(), r.number(), r.number(), strings.Repeat(string([]byte{byte(r.next())}), r.next()%40))
}

// meddle does something to both disks, as nobody of the program would.
func meddle(d, e *disk.Disk, r *reader) {
	names := []string{"root0", "root1", "root.new", "x"}
	name, other := names[r.next()%4], names[r.next()%4]
	laid := []string{"", "x", text(r.root()), bare(r.root())}[r.next()%4]
	what, n := r.next()%6, r.next()%60
	for _, d := range []*disk.Disk{d, e} {
		switch what {
		case 0:
			d.Append(name, []byte(laid))
		case 1:
			d.Remove(name)
			d.Append(name, []byte(laid))
		case 2:
			d.Remove(name)
		case 3:
			d.Rename(name, other)
		default:
			d.Cut(name, n)
		}
	}
}

// crashBoth has both disks crash, each file keeping some loose bytes.
func crashBoth(d, e *disk.Disk, r *reader) {
	keeps := make([]int, len(d.List()))
	for i := range keeps {
		keeps[i] = r.next()%60 - 1
	}
	d.Crash(keeps)
	e.Crash(keeps)
}

// turn does one thing to both disks, and answers what was told, the two to be the same.
func turn(d, e *disk.Disk, r *reader) (got, wanted string) {
	switch r.next() % 16 {
	case 0:
		n := r.next() % 8
		d.Arm(n)
		e.Arm(n)
	case 1, 2:
		crashBoth(d, e, r)
	case 3, 4, 5:
		meddle(d, e, r)
	default:
		written := r.root()
		told, err := roots.Write(d, written)
		other, why := slowWrite(e, written)
		return show(told) + strconv.Itoa(int(err)), show(other) + strconv.Itoa(int(why))
	}
	return "", ""
}

// checkScript follows a script's bytes on a disk, and by the chapter's words on another one.
func checkScript(t *testing.T, script string) {
	t.Helper()
	r := &reader{script}
	most := 60 + r.next()
	d, e := room(t, most), room(t, most)
	if n := r.next() % 8; n < 3 {
		last := text(root(maxNumber-n, 1, 1, ""))
		for _, d := range []*disk.Disk{d, e} {
			want(t, "Append", d.Append("root"+strconv.Itoa(n%2), []byte(last)), api.OK)
		}
	}
	for i := 0; r.rest != ""; i++ {
		got, wanted := turn(d, e, r)
		if got != wanted || stands(d) != stands(e) {
			t.Fatalf("turn %d of %q: %s, %q; not %s, %q", i, script, got, stands(d), wanted, stands(e))
		}
		counted, there, err := roots.Read(d)
		other, is, why := slowRead(e)
		if !same(counted, other) || there != is || err != why {
			t.Fatalf("turn %d of %q: Read: %s, %t, %d; not %s, %t, %d", i, script, show(counted), there, err, show(other), is, why)
		}
	}
}

// noise is n bytes that look like none in particular, others for each number.
func noise(number, n int) string {
	b := make([]byte, n)
	state := uint32(number)*2654435761 + 1
	for i := range b {
		state = state*1664525 + 1013904223
		b[i] = byte(state >> 24)
	}
	return string(b)
}

// P6.1 to P6.3: whatever is called, in whatever order, all goes as the chapter's words say.
func TestAsTheWordsSay(t *testing.T) {
	for number := range 2000 {
		checkScript(t, noise(number, 600))
	}
}

// FuzzRoots looks for calls that do not go as the chapter's words say.
func FuzzRoots(f *testing.F) {
	for number := range 20 {
		f.Add(noise(number, 40*number))
	}
	f.Fuzz(func(t *testing.T, script string) { checkScript(t, script) })
}

// FuzzParse looks for bytes, sealed or not, that are taken for a root's though they are none, or the other way round.
func FuzzParse(f *testing.F) {
	for _, r := range rightRoots()[:7] {
		f.Add(bare(r))
		f.Add(text(r))
	}
	f.Fuzz(func(t *testing.T, b string) {
		for _, b := range []string{b, sealed(b)} {
			r, err := roots.Parse([]byte(b))
			if wanted, why := slowParse(b); !same(r, wanted) || err != why {
				t.Errorf("%q: %s, %d; not %s, %d", b, show(r), err, show(wanted), why)
			}
			if again, wrong := roots.Bytes(r); err == api.OK && (string(again) != b || wrong != api.OK) {
				t.Errorf("%q: %q, %d", b, again, wrong)
			}
		}
	})
}
