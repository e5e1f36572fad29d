package pages_test

import (
	"strconv"
	"strings"
	"testing"

	"homestead/api"
	"homestead/disk"
	"homestead/pages"
)

// isOver complains unless a store is over, takes no more, whatever it is handed, and tells this number, and these keys and blobs.
func isOver(t *testing.T, s *pages.Store, number int, pairs ...string) {
	t.Helper()
	for range 2 {
		holds(t, s, number, pairs...)
		if !s.Over() {
			t.Error("the store is not over")
		}
		want(t, "Put", s.Put("a", nil), api.ErrEnded)
		want(t, "Put: key", s.Put("", make([]byte, api.MaxBlob+1)), api.ErrEnded)
		want(t, "Drop", s.Drop("a"), api.ErrEnded)
		want(t, "Drop: key", s.Drop(""), api.ErrEnded)
		if next, err := s.Commit(); next != 0 || err != api.ErrEnded {
			t.Errorf("Commit: %d, %d", next, err)
		}
		if names, err := s.Free(); len(names) > 0 || err != api.ErrEnded {
			t.Errorf("Free: %q, %d", names, err)
		}
	}
}

// endsAt has the power fail at each step of a Commit, behind which it comes back, and complains unless that ends the store and leaves these files.
func endsAt(t *testing.T, left []files, make func() (*disk.Disk, *pages.Store), number int, pairs ...string) {
	t.Helper()
	for armed := range len(left) + 1 {
		d, s := make()
		d.Arm(armed)
		next, err := s.Commit()
		if armed == len(left) {
			if next != number+1 || err != api.OK {
				t.Errorf("with all steps: %d, %d", next, err)
			}
			want(t, "a step behind them", d.Append("x", nil), api.ErrDown)
			tells(t, s, number+1, pairs...)
			break
		}
		if next != 0 || err != api.ErrDown {
			t.Errorf("armed for %d: %d, %d", armed, next, err)
		}
		isOver(t, s, number, pairs...)
		d.Crash(nil)
		isOver(t, s, number, pairs...)
		like(t, d, left[armed])
	}
}

// P5.4: a commit with a pack takes five steps of the disk's, in this order.
func TestCommitFails(t *testing.T) {
	i1 := index(1)
	endsAt(t, []files{
		{"i1": i1}, {"i1": i1, "c2": ""}, {"i1": i1, "c2": "x"}, {"i1": i1, "c2": "x", "i.new": ""},
		{"i1": i1, "c2": "x", "i.new": index(2, spot{"a", 2, 0, 1})},
	}, func() (*disk.Disk, *pages.Store) {
		d := lay(t, files{"i1": i1})
		s := open(t, d, 1)
		put(t, s, "a", "x")
		return d, s
	}, 1, "a", "x")
}

// P5.4: a commit without a pack takes three.
func TestCommitWithoutAPackFails(t *testing.T) {
	i1 := index(1, spot{"a", 1, 0, 1}, spot{"b", 1, 1, 1})
	endsAt(t, []files{
		{"i1": i1, "c1": "xy"}, {"i1": i1, "c1": "xy", "i.new": ""}, {"i1": i1, "c1": "xy", "i.new": index(2, spot{"a", 1, 0, 1})},
	}, func() (*disk.Disk, *pages.Store) {
		d := lay(t, files{"i1": i1, "c1": "xy"})
		s := open(t, d, 1)
		put(t, s, "b", "z")
		drop(t, s, "b")
		return d, s
	}, 1, "a", "x")
}

// P5.4: files of these names that have to go take a step each, too.
func TestCommitOntoFilesFails(t *testing.T) {
	i1 := index(1, spot{"a", 1, 0, 1})
	endsAt(t, []files{
		{"i1": i1, "c1": "x", "c2": "p", "i.new": "q", "i2": "r"},
		{"i1": i1, "c1": "x", "i.new": "q", "i2": "r"},
		{"i1": i1, "c1": "x", "c2": "", "i.new": "q", "i2": "r"},
		{"i1": i1, "c1": "x", "c2": "yz", "i.new": "q", "i2": "r"},
		{"i1": i1, "c1": "x", "c2": "yz", "i2": "r"},
		{"i1": i1, "c1": "x", "c2": "yz", "i.new": "", "i2": "r"},
		{"i1": i1, "c1": "x", "c2": "yz", "i.new": index(2, spot{"a", 2, 0, 1}, spot{"b", 2, 1, 1}), "i2": "r"},
	}, func() (*disk.Disk, *pages.Store) {
		d := lay(t, files{"i1": i1, "c1": "x"})
		s := open(t, d, 1)
		put(t, s, "b", "z", "a", "y")
		for name, text := range (files{"c2": "p", "i.new": "q", "i2": "r"}) {
			want(t, "Append "+name, d.Append(name, []byte(text)), api.OK)
			want(t, "Sync "+name, d.Sync(name), api.OK)
		}
		return d, s
	}, 1, "a", "y", "b", "z")
}

// P5.4: a disk without room for the pack, or for the index, ends the store; what stands there stays.
func TestCommitWithoutRoom(t *testing.T) {
	pack := strings.Repeat("x", 50)
	needed := len(index(2, spot{"a", 2, 0, 50}))
	for _, c := range []struct {
		less int
		left files
	}{
		{50 + needed, files{"i1": index(1)}}, {needed + 1, files{"i1": index(1)}},
		{needed, files{"i1": index(1), "c2": pack}}, {1, files{"i1": index(1), "c2": pack}},
	} {
		d := room(t, len(index(1))+50+needed-c.less)
		commit(t, open(t, d, 0), 1)
		s := open(t, d, 1)
		put(t, s, "a", pack)
		if number, err := s.Commit(); number != 0 || err != api.ErrFull {
			t.Errorf("%d bytes less: %d, %d", c.less, number, err)
		}
		isOver(t, s, 1, "a", pack)
		like(t, d, c.left)
		tells(t, open(t, d, 1), 1)
	}
	d := room(t, len(index(1))+50+needed)
	s := open(t, d, 0)
	commit(t, s, 1)
	put(t, s, "a", pack)
	commit(t, s, 2)
}

// P5.4: a disk that has all the files it may have ends the store.
func TestCommitWithoutFiles(t *testing.T) {
	for _, missing := range []int{0, 1} {
		d := room(t, 10_000)
		s := open(t, d, 0)
		put(t, s, "a", "x")
		for n := range api.MaxFiles - missing {
			want(t, "Append", d.Append("other"+strconv.Itoa(n), nil), api.OK)
		}
		if number, err := s.Commit(); number != 0 || err != api.ErrFull {
			t.Errorf("%d missing: %d, %d", missing, number, err)
		}
		isOver(t, s, 0, "a", "x")
		if d.Size("c1") != missing || d.Size("i.new") != 0 {
			t.Errorf("%d missing: c1 %d, i.new %d", missing, d.Size("c1"), d.Size("i.new"))
		}
	}
}

// P5.4: a commit goes by what the store has: files that were taken away behind its back are not missed, up to the next Open.
func TestCommitMissesNoFile(t *testing.T) {
	d := room(t, 1000)
	s := open(t, d, 0)
	put(t, s, "a", "x", "b", "y")
	commit(t, s, 1)
	want(t, "Remove", d.Remove("c1"), api.OK)
	want(t, "Remove", d.Remove("i1"), api.OK)
	put(t, s, "b", "z")
	commit(t, s, 2)
	like(t, d, files{"c2": "z", "i2": index(2, spot{"a", 1, 0, 1}, spot{"b", 2, 0, 1})})
	tells(t, s, 2, "a", "x", "b", "z")
	if other, err := pages.Open(d, 2); other != nil || err != api.ErrLog {
		t.Errorf("Open: %v, %d", other, err)
	}
}

// P5.5: at an error Free tells what it removed, and the store is over.
func TestFreeFails(t *testing.T) {
	gone := []string{"c1", "c3", "i.new", "i1"}
	for armed := range len(gone) + 1 {
		d := room(t, 1000)
		s := open(t, d, 0)
		put(t, s, "a", "x", "b", "y")
		commit(t, s, 1)
		put(t, s, "a", "z", "b", "w")
		commit(t, s, 2)
		drop(t, s, "b")
		for _, name := range []string{"c3", "i.new", "x"} {
			want(t, "Append "+name, d.Append(name, nil), api.OK)
		}
		all := d.List()
		d.Arm(armed)
		names, err := s.Free()
		if strings.Join(names, " ") != strings.Join(gone[:armed], " ") || (err == api.OK) != (armed == len(gone)) || err != api.OK && err != api.ErrDown {
			t.Errorf("armed for %d: %q, %d", armed, names, err)
		}
		if left := len(d.List()); left != len(all)-armed {
			t.Errorf("armed for %d leaves %q", armed, d.List())
		}
		if armed == len(gone) {
			tells(t, s, 2, "a", "z")
			continue
		}
		isOver(t, s, 2, "a", "z")
		d.Crash(nil)
		isOver(t, s, 2, "a", "z")
	}
}

// P5.2, P5.3, P5.5: what needs nothing of the disk goes on while that is down.
func TestWhileTheDiskIsDown(t *testing.T) {
	d := room(t, 1000)
	s := open(t, d, 0)
	put(t, s, "a", "x")
	commit(t, s, 1)
	d.Arm(0)
	want(t, "a step", d.Append("x", nil), api.ErrDown)
	tells(t, s, 1, "a", "x")
	put(t, s, "b", "y")
	drop(t, s, "a")
	want(t, "Put: key", s.Put("", nil), api.ErrArg)
	free(t, s)
	tells(t, s, 1, "b", "y")
	d.Crash(nil)
	commit(t, s, 2)
	d.Arm(0)
	want(t, "a step", d.Append("x", nil), api.ErrDown)
	if number, err := s.Commit(); number != 0 || err != api.ErrDown {
		t.Errorf("Commit: %d, %d", number, err)
	}
	isOver(t, s, 2, "b", "y")
}

// P5.4, P5.5: the errors ahead of the disk's end no store.
func TestErrorsThatEndNothing(t *testing.T) {
	d := lay(t, files{"i9007199254740992": index(maxNumber)})
	s := open(t, d, maxNumber)
	d.Arm(0)
	if number, err := s.Commit(); number != 0 || err != api.ErrArg {
		t.Errorf("Commit: %d, %d", number, err)
	}
	tells(t, s, maxNumber)
	if d.Down() {
		t.Error("a step was taken")
	}
}
