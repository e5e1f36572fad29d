package roots_test

import (
	"math"
	"strconv"
	"strings"
	"testing"

	"homestead/api"
	"homestead/disk"
)

// The chapter's examples.
func TestExamples(t *testing.T) {
	d := room(t, 1000)
	none(t, d)
	write(t, d, api.Root{Tick: 5, Commit: 2}, 1)
	like(t, d, files{"root1": text(root(1, 5, 2, ""))})
	write(t, d, api.Root{Tick: 6, Commit: 3}, 2)
	like(t, d, files{"root1": text(root(1, 5, 2, "")), "root0": text(root(2, 6, 3, ""))})
	counts(t, d, root(2, 6, 3, ""))
	want(t, "Cut", d.Cut("root0", d.Size("root0")-1), api.OK)
	counts(t, d, root(1, 5, 2, ""))
	write(t, d, api.Root{Tick: 7, Commit: 4}, 2)
	like(t, d, files{"root1": text(root(1, 5, 2, "")), "root0": text(root(2, 7, 4, ""))})
	counts(t, d, root(2, 7, 4, ""))
}

// P6.3: by turns into both files, the one ahead staying as it was.
func TestWriteByTurns(t *testing.T) {
	d := room(t, 10_000)
	stands := files{}
	for serial := 1; serial < 300; serial++ {
		r := root(serial*7%5, serial*3%200, serial*11%300, strings.Repeat(strconv.Itoa(serial), serial%50))
		write(t, d, r, serial)
		r.Serial = serial
		counts(t, d, r)
		stands["root"+strconv.Itoa(serial%2)] = text(r)
		like(t, d, stands)
	}
}

// P6.3, P6.4: roots at the limits are written and read.
func TestWriteAtTheLimits(t *testing.T) {
	for _, r := range rightRoots() {
		d := room(t, len(text(r)))
		write(t, d, r, 1)
		r.Serial = 1
		counts(t, d, r)
	}
}

// P6.3: whatever Serial is handed in, it is one more than the one that counts.
func TestSerialIsTheNext(t *testing.T) {
	for _, serial := range []int{math.MinInt, -1, 0, 1, 2, 9, maxNumber, maxNumber + 1, math.MaxInt} {
		write(t, room(t, 1000), root(serial, 5, 2, "blob"), 1)
		for _, counted := range []int{1, 2, 127, 128, maxNumber - 2, maxNumber - 1} {
			d := lay(t, files{"root" + strconv.Itoa(counted%2): text(root(counted, 1, 1, "counted"))})
			write(t, d, root(serial, 5, 2, "blob"), counted+1)
			counts(t, d, root(counted+1, 5, 2, "blob"))
		}
	}
}

// P6.3: what stood under the name is gone, be it a root or not; what is not the next one's file stays.
func TestWriteOntoFiles(t *testing.T) {
	one, two := text(root(1, 1, 1, "one")), text(root(2, 2, 2, "two"))
	r := root(0, 5, 2, "blob")
	for _, c := range []struct {
		stands files
		serial int
		left   files
	}{
		{files{"root0": "x", "root1": "y"}, 1, files{"root0": "x"}},
		{files{"root0": one, "root1": two}, 1, files{"root0": one}},
		{files{"root0": two, "root1": "x"}, 3, files{"root0": two}},
		{files{"root0": "", "root1": one}, 2, files{"root1": one}},
		{files{"root0": two, "root1": one}, 3, files{"root0": two}},
		{files{"root0": two, "root1": text(root(7, 7, 7, ""))}, 8, files{"root1": text(root(7, 7, 7, ""))}},
		{files{"root.new": text(root(5, 5, 5, "new")), "root1": one}, 2, files{"root1": one}},
		{files{"root.new": "", "i1": "i", "root2": two}, 1, files{"i1": "i", "root2": two}},
	} {
		d := lay(t, c.stands)
		write(t, d, r, c.serial)
		c.left["root"+strconv.Itoa(c.serial%2)] = text(root(c.serial, 5, 2, "blob"))
		like(t, d, c.left)
		counts(t, d, root(c.serial, 5, 2, "blob"))
	}
}

// endsAt has the power fail at each step of a Write onto these files, behind which it comes back, and complains unless that leaves, each time, those files and that root.
func endsAt(t *testing.T, stands files, left []files, counted, r api.Root) {
	t.Helper()
	for armed, files := range left {
		d := lay(t, stands)
		d.Arm(armed)
		fails(t, "armed for "+strconv.Itoa(armed), d, r, api.ErrDown)
		if !d.Down() {
			t.Errorf("armed for %d: the disk is not down", armed)
		}
		d.Crash(nil)
		like(t, d, files)
		counts(t, d, counted)
		write(t, d, r, counted.Serial+1)
	}
	d := lay(t, stands)
	d.Arm(len(left))
	write(t, d, r, counted.Serial+1)
	want(t, "a step behind them", d.Append("x", nil), api.ErrDown)
}

// P6.3: three steps of the disk's, in this order, and one ahead of them if a new root was left.
func TestWriteFails(t *testing.T) {
	one, two, next := text(root(1, 1, 1, "one")), text(root(2, 2, 2, "two")), text(root(3, 5, 2, "blob"))
	stands := files{"root0": two, "root1": one, "x": "x"}
	with := func(b string) files { return files{"root0": two, "root1": one, "x": "x", "root.new": b} }
	endsAt(t, stands, []files{stands, with(""), with(next)}, root(2, 2, 2, "two"), root(0, 5, 2, "blob"))
	endsAt(t, with("left"), []files{with("left"), stands, with(""), with(next)}, root(2, 2, 2, "two"), root(0, 5, 2, "blob"))
}

// P6.3: a disk without room tells ErrFull; a new root that was left goes ahead of that, and makes room.
func TestWriteWithoutRoom(t *testing.T) {
	r := root(0, 5, 2, "blob")
	one := text(root(1, 5, 2, "blob"))
	for less := range 3 {
		for _, left := range []string{"", "left behind"} {
			d := room(t, 2*len(one)-less)
			write(t, d, r, 1)
			if left != "" {
				want(t, "Append", d.Append("root.new", []byte(left)), api.OK)
			}
			if less == 0 {
				write(t, d, r, 2)
				like(t, d, files{"root1": one, "root0": text(root(2, 5, 2, "blob"))})
				continue
			}
			fails(t, "less room", d, r, api.ErrFull)
			like(t, d, files{"root1": one})
			counts(t, d, root(1, 5, 2, "blob"))
		}
	}
}

// P6.3: a disk that has all the files it may have takes a root only if a new one was left, to be removed.
func TestWriteWithoutFiles(t *testing.T) {
	for _, name := range []string{"root.new", "root0", "root1", "other"} {
		d := lay(t, files{name: "left"})
		for n := range api.MaxFiles - 1 {
			want(t, "Append", d.Append("x"+strconv.Itoa(n), nil), api.OK)
		}
		if name == "root.new" {
			write(t, d, root(0, 5, 2, "blob"), 1)
			counts(t, d, root(1, 5, 2, "blob"))
			continue
		}
		fails(t, name, d, root(0, 5, 2, "blob"), api.ErrFull)
		if d.Size(name) != 4 {
			t.Errorf("%s: %d bytes", name, d.Size(name))
		}
	}
}

// P6.3: the errors ahead of the steps, each with nothing done, and which comes first.
func TestWriteErrors(t *testing.T) {
	long := strings.Repeat("b", api.MaxBlob+1)
	stands := files{"root0": text(root(2, 2, 2, "two")), "root.new": "left"}
	last := files{"root0": text(root(maxNumber, 2, 2, "last")), "root1": text(root(1, 1, 1, "")), "root.new": "left"}
	try := func(what string, stands files, r api.Root, wanted api.Errno) {
		t.Helper()
		d := lay(t, stands)
		d.Arm(0)
		fails(t, what, d, r, wanted)
		if d.Down() {
			t.Errorf("%s: a step was taken", what)
		}
		like(t, d, stands)
	}
	for _, n := range []int{math.MinInt, -1, maxNumber + 1, math.MaxInt} {
		for _, blob := range []string{"", "blob", long} {
			try("Tick", stands, root(3, n, 2, blob), api.ErrArg)
			try("Commit", stands, root(3, 5, n, blob), api.ErrArg)
		}
	}
	try("long", stands, root(3, 5, 2, long), api.ErrLong)
	try("long, at its Serial", stands, root(-1, 5, 2, long), api.ErrLong)
	for _, r := range []api.Root{root(1, 5, 2, "blob"), {}, root(1, 5, 2, long), root(1, -1, 2, long), root(maxNumber, 5, 2, "")} {
		try("no next Serial", last, r, api.ErrArg)
	}
}

// P6.3, R5: Read's error comes ahead of all others.
func TestWriteReadsFirst(t *testing.T) {
	wrong := []api.Root{root(0, 5, 2, "blob"), root(0, -1, 2, ""), root(0, 5, 2, strings.Repeat("b", api.MaxBlob+1))}
	for _, r := range wrong {
		for what, d := range noDisks(t) {
			fails(t, what, d, r, api.ErrNil)
		}
		for _, d := range append(downs(t), downAtTheLast(t)) {
			fails(t, "down", d, r, api.ErrDown)
		}
	}
}

// downAtTheLast is a disk, down, whose root has the last serial number.
func downAtTheLast(t *testing.T) *disk.Disk {
	t.Helper()
	d := lay(t, files{"root0": text(root(maxNumber, 5, 2, ""))})
	d.Arm(0)
	want(t, "a step", d.Append("x", nil), api.ErrDown)
	return d
}
