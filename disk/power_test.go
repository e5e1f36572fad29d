package disk_test

import (
	"math"
	"slices"
	"strconv"
	"strings"
	"testing"

	"homestead/api"
	"homestead/disk"
)

// calls are those that tell an Errno, by names; each would go well at a disk with the file a of three bytes or more.
func calls(d *disk.Disk) map[string]func() api.Errno {
	return map[string]func() api.Errno{
		"Append to a":  func() api.Errno { return d.Append("a", []byte("!")) },
		"Append to q":  func() api.Errno { return d.Append("q", []byte("!")) },
		"Append of no": func() api.Errno { return d.Append("a", nil) },
		"Sync":         func() api.Errno { return d.Sync("a") },
		"Rename":       func() api.Errno { return d.Rename("a", "q") },
		"Rename to a":  func() api.Errno { return d.Rename("a", "a") },
		"Remove":       func() api.Errno { return d.Remove("a") },
		"Cut":          func() api.Errno { return d.Cut("a", 1) },
		"Cut nothing":  func() api.Errno { return d.Cut("a", d.Size("a")) },
	}
}

// refused makes calls that are refused ahead of their step, and answers by names what each told, and what was wanted.
func refused(d *disk.Disk) map[string][2]api.Errno {
	many := make([]byte, api.MaxDisk+1)
	_, read := d.Read("no")
	return map[string][2]api.Errno{
		"Append: name":     {d.Append("A", nil), api.ErrFile},
		"Append: name 2":   {d.Append("", many), api.ErrFile},
		"Append: room":     {d.Append("a", many), api.ErrFull},
		"Append: room 2":   {d.Append("q", many), api.ErrFull},
		"Sync":             {d.Sync("no"), api.ErrFile},
		"Rename: from":     {d.Rename("no", "b"), api.ErrFile},
		"Rename: to":       {d.Rename("a", "B"), api.ErrFile},
		"Remove":           {d.Remove("no"), api.ErrFile},
		"Cut: name":        {d.Cut("no", 0), api.ErrFile},
		"Cut: name, count": {d.Cut("no", -1), api.ErrFile},
		"Cut: below":       {d.Cut("a", -1), api.ErrArg},
		"Cut: beyond":      {d.Cut("a", d.Size("a")+1), api.ErrArg},
		"Read":             {read, api.ErrFile},
	}
}

// looks is all that a disk tells of its files, be it down or not.
func looks(d *disk.Disk) string {
	var told []string
	for _, name := range d.List() {
		told = append(told, name, strconv.Itoa(d.Size(name)), strconv.Itoa(d.Synced(name)))
	}
	return strings.Join(append(told, "used", strconv.Itoa(d.Used())), " ")
}

// holds is all that a disk tells of its files, their bytes too; it must have power.
func holds(t *testing.T, d *disk.Disk) string {
	t.Helper()
	told := looks(d)
	for _, name := range d.List() {
		b, err := d.Read(name)
		want(t, "Read "+name, err, api.OK)
		told += " " + strconv.Quote(string(b))
	}
	return told
}

// P3.3: each call takes one step: behind none it does nothing, behind one it is the last that does something.
func TestEachCallTakesOneStep(t *testing.T) {
	for what := range calls(nil) {
		for before := range 3 {
			d, e := room(t, 100), room(t, 100)
			for _, x := range []*disk.Disk{d, e} {
				putFirm(t, x, "a", "xyz")
				put(t, x, "a", "uv")
			}
			d.Arm(before)
			for range before {
				want(t, what, d.Append("b", []byte("s")), api.OK)
				put(t, e, "b", "s")
			}
			want(t, what, calls(d)[what](), api.ErrDown)
			if !d.Down() || looks(d) != looks(e) {
				t.Errorf("%s behind %d steps: Down %t, %s; not %s", what, before, d.Down(), looks(d), looks(e))
			}
			d.Crash([]int{9, 9})
			e.Crash([]int{9, 9})
			if holds(t, d) != holds(t, e) {
				t.Errorf("%s behind %d steps and a crash: %s, not %s", what, before, holds(t, d), holds(t, e))
			}
			e.Arm(1)
			want(t, what, calls(e)[what](), api.OK)
			if e.Down() {
				t.Errorf("%s: the power failed with a step left", what)
			}
			want(t, "the next step", e.Append("c", nil), api.ErrDown)
		}
	}
}

// P3.3: Arm counts from where it is called on; the last one holds; below 0 is 0.
func TestArm(t *testing.T) {
	for _, c := range []struct {
		arms  []int
		steps int
	}{
		{[]int{0}, 0}, {[]int{1}, 1}, {[]int{2}, 2}, {[]int{7}, 7}, {[]int{-1}, 0}, {[]int{math.MinInt}, 0},
		{[]int{0, 3}, 3}, {[]int{3, 0}, 0}, {[]int{5, -5}, 0}, {[]int{math.MaxInt, 2}, 2},
	} {
		d := room(t, 100)
		put(t, d, "a", "first")
		for _, n := range c.arms {
			d.Arm(n)
		}
		if d.Down() {
			t.Errorf("Arm %v: down at once", c.arms)
		}
		for range c.steps {
			put(t, d, "a", "x")
		}
		if d.Down() {
			t.Errorf("Arm %v: down ahead of its time", c.arms)
		}
		want(t, "Append", d.Append("a", []byte("y")), api.ErrDown)
		if !d.Down() || d.Size("a") != 5+c.steps {
			t.Errorf("Arm %v: Down %t, Size %d", c.arms, d.Down(), d.Size("a"))
		}
	}
}

// P3.3: a number that is never reached.
func TestArmOfMany(t *testing.T) {
	d := room(t, 100)
	d.Arm(math.MaxInt)
	for range 1000 {
		put(t, d, "a", "")
	}
	if d.Down() {
		t.Error("down")
	}
}

// P3.3: Arm does nothing to a disk that is down: neither brings it back, nor binds it behind the crash.
func TestArmWhileDown(t *testing.T) {
	d := room(t, 100)
	putFirm(t, d, "a", "xyz")
	d.Arm(0)
	want(t, "Sync", d.Sync("a"), api.ErrDown)
	d.Arm(5)
	d.Arm(0)
	want(t, "Sync", d.Sync("a"), api.ErrDown)
	if !d.Down() {
		t.Error("Arm brought the power back")
	}
	d.Crash(nil)
	for range 100 {
		put(t, d, "a", "")
	}
}

// P3.3: what is refused ahead of its step, and what only looks, takes none; an error ahead of the step is told first.
func TestWhatTakesNoStep(t *testing.T) {
	for _, left := range []int{0, 1} {
		d := room(t, 100)
		putFirm(t, d, "a", "xyz")
		before := holds(t, d)
		d.Arm(left)
		for what, told := range refused(d) {
			want(t, what, told[0], told[1])
		}
		if holds(t, d) != before || d.Down() {
			t.Errorf("became %s, Down %t; was %s", holds(t, d), d.Down(), before)
		}
		for range left {
			want(t, "Sync", d.Sync("a"), api.OK)
		}
		want(t, "Sync", d.Sync("a"), api.ErrDown)
	}
}

// P3.3: one file too many is refused ahead of the step, too.
func TestFileBeyondTakesNoStep(t *testing.T) {
	d, _ := manyFiles(t)
	d.Arm(0)
	want(t, "Append of one file beyond", d.Append("g", nil), api.ErrFull)
	if d.Down() {
		t.Error("down")
	}
	want(t, "Append", d.Append("f0", nil), api.ErrDown)
}

// P3.3: a disk that is down tells ErrDown ahead of every other error, and still tells its sizes and names.
func TestDown(t *testing.T) {
	d := room(t, 100)
	putFirm(t, d, "a", "xyz")
	put(t, d, "a", "uv")
	put(t, d, "b", "w")
	before := looks(d)
	d.Arm(0)
	want(t, "Remove", d.Remove("a"), api.ErrDown)
	for what, call := range calls(d) {
		want(t, what, call(), api.ErrDown)
	}
	many := make([]byte, api.MaxDisk+1)
	want(t, "Append: name", d.Append("A", nil), api.ErrDown)
	want(t, "Append: room", d.Append("a", many), api.ErrDown)
	want(t, "Sync: name", d.Sync("no"), api.ErrDown)
	want(t, "Rename: from", d.Rename("no", "b"), api.ErrDown)
	want(t, "Rename: to", d.Rename("a", "B"), api.ErrDown)
	want(t, "Remove: name", d.Remove("no"), api.ErrDown)
	want(t, "Cut: name", d.Cut("no", 0), api.ErrDown)
	want(t, "Cut: count", d.Cut("a", -1), api.ErrDown)
	for _, name := range []string{"a", "no", "A", ""} {
		if b, err := d.Read(name); len(b) != 0 || err != api.ErrDown {
			t.Errorf("Read %q: %q, %d", name, b, err)
		}
	}
	if !d.Down() || looks(d) != before {
		t.Errorf("Down %t, %s; was %s", d.Down(), looks(d), before)
	}
	lists(t, d, "a", "b")
	d.Crash([]int{2, 1})
	if d.Down() {
		t.Error("down behind a crash")
	}
	has(t, d, "a", "xyzuv", "")
	has(t, d, "b", "w", "")
}

// P3.3: of each file as many loose bytes as are kept, counted by rising names.
func TestCrashKeeps(t *testing.T) {
	for _, c := range []struct {
		keeps   []int
		a, b, c string
	}{
		{nil, "A", "", "CC"},
		{[]int{}, "A", "", "CC"},
		{[]int{0, 0, 0}, "A", "", "CC"},
		{[]int{1}, "Ax", "", "CC"},
		{[]int{0, 1}, "A", "u", "CC"},
		{[]int{0, 0, 1}, "A", "", "CC"},
		{[]int{2, 2, 2}, "Axy", "uv", "CC"},
		{[]int{3, 3, 3}, "Axyz", "uv", "CC"},
		{[]int{4, 2, 0}, "Axyz", "uv", "CC"},
		{[]int{-1, 1, -1}, "A", "u", "CC"},
		{[]int{math.MinInt, math.MinInt, math.MinInt}, "A", "", "CC"},
		{[]int{math.MaxInt, math.MaxInt, math.MaxInt}, "Axyz", "uv", "CC"},
		{[]int{1, 1, 1, 1, 1, 1}, "Ax", "u", "CC"},
	} {
		for _, down := range []bool{false, true} {
			d := room(t, 100)
			putFirm(t, d, "c", "CC")
			put(t, d, "b", "uv")
			putFirm(t, d, "a", "A")
			put(t, d, "a", "xyz")
			d.Arm(0)
			if down {
				want(t, "Sync", d.Sync("a"), api.ErrDown)
			}
			handed := slices.Clone(c.keeps)
			d.Crash(handed)
			if !slices.Equal(handed, c.keeps) {
				t.Errorf("keeps %v became %v", c.keeps, handed)
			}
			lists(t, d, "a", "b", "c")
			has(t, d, "a", c.a, "")
			has(t, d, "b", c.b, "")
			has(t, d, "c", c.c, "")
			for range 100 {
				put(t, d, "a", "")
			}
		}
	}
}

// P3.3: the i-th name is that of the rising names, at the most files that there may be.
func TestCrashOfManyFiles(t *testing.T) {
	d, names := manyFiles(t)
	keeps := make([]int, len(names))
	for i, name := range names {
		put(t, d, name, "yz")
		keeps[i] = i % 4
	}
	d.Crash(keeps)
	for i, name := range names {
		has(t, d, name, "xyz"[:keeps[i]], "")
	}
}

// P3.3: names count by what they are at the crash, not by what they were.
func TestCrashBehindRename(t *testing.T) {
	d := room(t, 100)
	put(t, d, "a", "xyz")
	put(t, d, "m", "uvw")
	want(t, "Rename", d.Rename("a", "z"), api.OK)
	d.Crash([]int{1, 2})
	gone(t, d, "a")
	has(t, d, "m", "u", "")
	has(t, d, "z", "xy", "")
}

// P3.3: what a crash left is firm: a second one takes nothing of it.
func TestCrashTwice(t *testing.T) {
	d := room(t, 100)
	put(t, d, "a", "xyz")
	d.Crash([]int{2})
	d.Crash([]int{-1})
	has(t, d, "a", "xy", "")
	put(t, d, "a", "u")
	has(t, d, "a", "xy", "u")
	d.Crash(nil)
	has(t, d, "a", "xy", "")
}

// deeds are steps of a script, one of each kind and more, none of which is refused in this order.
func deeds(d *disk.Disk) []func() api.Errno {
	return []func() api.Errno{
		func() api.Errno { return d.Append("a", []byte("xyz")) },
		func() api.Errno { return d.Append("b", []byte("uv")) },
		func() api.Errno { return d.Sync("a") },
		func() api.Errno { return d.Append("a", []byte("123")) },
		func() api.Errno { return d.Append("c", []byte("new")) },
		func() api.Errno { return d.Sync("c") },
		func() api.Errno { return d.Rename("c", "b") },
		func() api.Errno { return d.Append("b", []byte("er")) },
		func() api.Errno { return d.Cut("a", 4) },
		func() api.Errno { return d.Append("a", []byte("!")) },
		func() api.Errno { return d.Remove("a") },
		func() api.Errno { return d.Append("a", []byte("again")) },
		func() api.Errno { return d.Rename("b", "c") },
		func() api.Errno { return d.Sync("c") },
	}
}

// P3.4: up to the step at which the power fails all goes as it would, and then nothing does, whatever a crash keeps.
func TestPowerFailsAtEachStep(t *testing.T) {
	for n := range len(deeds(nil)) + 1 {
		for kept := -1; kept < 6; kept++ {
			d, e := room(t, 100), room(t, 100)
			for i, deed := range deeds(e) {
				if i < n {
					want(t, "deed "+strconv.Itoa(i), deed(), api.OK)
				}
			}
			d.Arm(n)
			for i, deed := range deeds(d) {
				wanted := api.OK
				if i >= n {
					wanted = api.ErrDown
				}
				want(t, "deed "+strconv.Itoa(i)+" of "+strconv.Itoa(n), deed(), wanted)
			}
			if looks(d) != looks(e) || d.Down() != (n < len(deeds(nil))) {
				t.Errorf("behind %d steps: %s, not %s", n, looks(d), looks(e))
			}
			checkCrash(t, d, e, kept)
		}
	}
}

// checkCrash crashes d and e, which has power, keeping as many bytes, and complains unless firm bytes, those that were kept, and all names are there in both.
func checkCrash(t *testing.T, d, e *disk.Disk, kept int) {
	t.Helper()
	names := e.List()
	keeps := make([]int, len(names))
	left := make([]string, len(names))
	for i, name := range names {
		keeps[i] = kept
		b, _ := e.Read(name)
		left[i] = string(b[:min(len(b), e.Synced(name)+max(kept, 0))])
	}
	for _, x := range []*disk.Disk{d, e} {
		x.Crash(keeps)
		lists(t, x, names...)
		for i, name := range names {
			has(t, x, name, left[i], "")
		}
	}
}

// P3.4: what happens to one file is the same with others beside it and without.
func TestFilesAreApart(t *testing.T) {
	alone, among := room(t, 100), room(t, 100)
	bother := func(i int) {
		name := "z" + strconv.Itoa(i%3)
		among.Append(name, []byte("zzz"))
		among.Sync("z1")
		among.Rename("z2", "y")
		among.Cut("z0", 1)
		among.Remove("z1")
	}
	steps := func(d *disk.Disk) []func() api.Errno {
		return []func() api.Errno{
			func() api.Errno { return d.Append("m", []byte("xyz")) },
			func() api.Errno { return d.Sync("m") },
			func() api.Errno { return d.Append("m", []byte("uvw")) },
			func() api.Errno { return d.Cut("m", 5) },
			func() api.Errno { return d.Append("m", []byte("st")) },
			func() api.Errno { return d.Rename("m", "k") },
			func() api.Errno { return d.Append("k", []byte("r")) },
		}
	}
	for i := range steps(alone) {
		want(t, "alone", steps(alone)[i](), api.OK)
		bother(i)
		want(t, "among others", steps(among)[i](), api.OK)
	}
	bother(9)
	has(t, alone, "k", "xyzuv", "str")
	has(t, among, "k", "xyzuv", "str")
	keeps := make([]int, len(among.List()))
	keeps[slices.Index(among.List(), "k")] = 2
	among.Crash(keeps)
	alone.Crash([]int{2})
	has(t, alone, "k", "xyzuvst", "")
	has(t, among, "k", "xyzuvst", "")
}
