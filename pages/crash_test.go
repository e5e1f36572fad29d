package pages_test

import (
	"maps"
	"slices"
	"strconv"
	"strings"
	"testing"

	"homestead/api"
	"homestead/disk"
	"homestead/pages"
)

// blobs are keys with their blobs.
type blobs = map[string]string

// tale is a store's past: what is there, and what a crash has to leave of it.
type tale struct {
	disk    *disk.Disk
	store   *pages.Store
	keys    blobs
	commits map[int]blobs // that were told, and not freed
	begun   int           // the number of the commit that was begun, perhaps without an end
	what    blobs         // the keys that it was to have
	turn    int
}

// begin is a tale of a new disk.
func begin(t *testing.T) *tale {
	t.Helper()
	d := room(t, 100_000)
	return &tale{disk: d, store: open(t, d, 0), keys: blobs{}, commits: map[int]blobs{0: {}}}
}

// put puts a key, with a blob that no other one has.
func (s *tale) put(key int) api.Errno {
	name, text := "k"+strconv.Itoa(key), strings.Repeat(strconv.Itoa(s.turn)+".", s.turn*7%11)
	err := s.store.Put(name, []byte(text))
	if err == api.OK {
		s.keys[name] = text
	}
	return err
}

// commit commits what is there.
func (s *tale) commit() api.Errno {
	s.begun, s.what = s.store.Number()+1, maps.Clone(s.keys)
	number, err := s.store.Commit()
	if err == api.OK {
		s.commits[number] = s.what
	}
	return err
}

// free frees what is not the commit's: of the other ones nothing is promised from its begin on.
func (s *tale) free() api.Errno {
	number := s.store.Number()
	s.commits = map[int]blobs{number: s.commits[number]}
	_, err := s.store.Free()
	return err
}

// goOn does the tale's next thing, and tells its error.
func (s *tale) goOn() api.Errno {
	s.turn++
	switch s.turn % 8 {
	case 3, 5, 6:
		return s.commit()
	case 7:
		name := "k" + strconv.Itoa(s.turn/2%24)
		delete(s.keys, name)
		return s.store.Drop(name)
	case 0:
		if s.turn%24 == 0 {
			return s.free()
		}
	}
	return s.put(s.turn % 24)
}

// crash has the power fail now, if it did not, and come back, with so many loose bytes of each file kept.
func (s *tale) crash(kept int) {
	keeps := make([]int, len(s.disk.List()))
	for i := range keeps {
		keeps[i] = kept
	}
	s.disk.Crash(keeps)
}

// copied is a disk with the files of another one.
func copied(t *testing.T, d *disk.Disk) *disk.Disk {
	t.Helper()
	stands := files{}
	for _, name := range d.List() {
		b, err := d.Read(name)
		want(t, "Read "+name, err, api.OK)
		stands[name] = string(b)
	}
	return lay(t, stands)
}

// is complains unless a store has these keys and blobs, and its commit is that of this number.
func is(t *testing.T, s *pages.Store, number int, keys blobs) {
	t.Helper()
	var pairs []string
	for _, key := range slices.Sorted(maps.Keys(keys)) {
		pairs = append(pairs, key, keys[key])
	}
	tells(t, s, number, pairs...)
}

// check complains unless each commit that was told is there, as it was, and one that was begun is as it was to be, if it is there.
func (s *tale) check(t *testing.T) {
	t.Helper()
	for number, keys := range s.commits {
		d := copied(t, s.disk)
		is(t, open(t, d, number), number, keys)
		if names := d.List(); len(names) > api.MaxPacks+1 {
			t.Errorf("commit %d rests on %q", number, names)
		}
	}
	store, err := pages.Open(copied(t, s.disk), s.begun)
	if s.begun > 0 && err == api.OK {
		is(t, store, s.begun, s.what)
	} else if s.begun > 0 {
		want(t, "Open of what was begun", err, api.ErrLog)
	}
}

// open opens the last commit that was told.
func (s *tale) open(t *testing.T) {
	t.Helper()
	last := slices.Max(slices.Collect(maps.Keys(s.commits)))
	s.store = open(t, s.disk, last)
	s.keys = maps.Clone(s.commits[last])
	s.commits = map[int]blobs{last: s.commits[last]}
	s.begun = 0
}

// tellUpTo tells a tale, of so many turns, whose power fails behind so many steps.
func tellUpTo(t *testing.T, turns, armed int) *tale {
	t.Helper()
	s := begin(t)
	s.disk.Arm(armed)
	for range turns {
		if err := s.goOn(); err != api.OK {
			want(t, "turn "+strconv.Itoa(s.turn), err, api.ErrDown)
			break
		}
	}
	return s
}

// P5.6: behind a crash at each step, whatever is kept, each commit that was told is there, up to Free; and all goes on from there.
func TestCrashAtEachStep(t *testing.T) {
	for armed := range 150 {
		for _, kept := range []int{0, 1, 5, 30, 1000} {
			s := tellUpTo(t, 72, armed)
			s.crash(kept)
			s.check(t)
			s.open(t)
			for range 30 {
				want(t, "behind the crash", s.goOn(), api.OK)
			}
			s.crash(kept)
			s.check(t)
		}
	}
}

// P5.6: every number of loose bytes at the steps of the first commits.
func TestCrashKeepsEachCount(t *testing.T) {
	for armed := range 16 {
		for kept := range 60 {
			s := tellUpTo(t, 14, armed)
			s.crash(kept)
			s.check(t)
		}
	}
}

// P5.6: a crash within Open takes nothing of the commit that is opened either.
func TestCrashWithinOpen(t *testing.T) {
	for armed := range 40 {
		for within := range 12 {
			s := tellUpTo(t, 23, armed)
			s.crash(within)
			last := slices.Max(slices.Collect(maps.Keys(s.commits)))
			s.disk.Arm(within)
			if store, err := pages.Open(s.disk, last); err != api.OK && (store != nil || err != api.ErrDown) {
				t.Errorf("Open: %v, %d", store, err)
			}
			s.commits = map[int]blobs{last: s.commits[last]}
			s.crash(within)
			s.check(t)
		}
	}
}

// P5.6: a commit rests on sixteen packs at most, however many there were, and what is got is what was put last.
func TestManyCommits(t *testing.T) {
	s := begin(t)
	for number := 1; number <= 100; number++ {
		s.turn++
		want(t, "Put", s.put(number%40), api.OK)
		want(t, "Commit", s.commit(), api.OK)
		want(t, "Free", s.free(), api.OK)
		if names := s.disk.List(); len(names) > api.MaxPacks+1 {
			t.Fatalf("commit %d rests on %q", number, names)
		}
		is(t, s.store, number, s.keys)
		s.check(t)
	}
}
