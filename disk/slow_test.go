package disk_test

import (
	"slices"
	"strings"
	"testing"

	"homestead/api"
	"homestead/disk"
)

// slowFile is a file as the chapter's words have it.
type slowFile struct{ name, firm, loose string }

// slowDisk follows the chapter's words one by one.
type slowDisk struct {
	most  int
	files []slowFile // by rising names
	down  bool
	bound bool
	left  int
}

// at is where the file of that name stands, or -1.
func (s *slowDisk) at(name string) int {
	return slices.IndexFunc(s.files, func(f slowFile) bool { return f.name == name })
}

// used is how many bytes all files have.
func (s *slowDisk) used() int {
	n := 0
	for _, f := range s.files {
		n += len(f.firm + f.loose)
	}
	return n
}

// named tells whether that is a name.
func named(name string) bool {
	return name != "" && len(name) <= 40 && strings.Trim(name, "abcdefghijklmnopqrstuvwxyz0123456789.-") == ""
}

// step does what a call does behind its step, if that is to be had.
func (s *slowDisk) step(does func()) api.Errno {
	if s.bound && s.left == 0 {
		s.down = true
		return api.ErrDown
	}
	if s.bound {
		s.left--
	}
	does()
	slices.SortFunc(s.files, func(a, b slowFile) int { return strings.Compare(a.name, b.name) })
	return api.OK
}

func (s *slowDisk) append(name, b string) api.Errno {
	at := s.at(name)
	switch {
	case s.down:
		return api.ErrDown
	case !named(name):
		return api.ErrFile
	case s.used()+len(b) > s.most, at < 0 && len(s.files) == 200:
		return api.ErrFull
	}
	return s.step(func() {
		if at < 0 {
			s.files = append(s.files, slowFile{name: name, loose: b})
		} else {
			s.files[at].loose += b
		}
	})
}

func (s *slowDisk) sync(name string) api.Errno {
	at := s.at(name)
	switch {
	case s.down:
		return api.ErrDown
	case at < 0:
		return api.ErrFile
	}
	return s.step(func() { s.files[at] = slowFile{name: name, firm: s.files[at].firm + s.files[at].loose} })
}

func (s *slowDisk) cut(name string, n int) api.Errno {
	at := s.at(name)
	switch {
	case s.down:
		return api.ErrDown
	case at < 0:
		return api.ErrFile
	case n < 0 || n > len(s.files[at].firm+s.files[at].loose):
		return api.ErrArg
	}
	return s.step(func() { s.files[at] = slowFile{name: name, firm: (s.files[at].firm + s.files[at].loose)[:n]} })
}

func (s *slowDisk) rename(from, to string) api.Errno {
	at := s.at(from)
	switch {
	case s.down:
		return api.ErrDown
	case at < 0, !named(to):
		return api.ErrFile
	}
	return s.step(func() {
		f := s.files[at]
		s.files = slices.DeleteFunc(s.files, func(g slowFile) bool { return g.name == from || g.name == to })
		s.files = append(s.files, slowFile{name: to, firm: f.firm, loose: f.loose})
	})
}

func (s *slowDisk) remove(name string) api.Errno {
	at := s.at(name)
	switch {
	case s.down:
		return api.ErrDown
	case at < 0:
		return api.ErrFile
	}
	return s.step(func() { s.files = slices.Delete(s.files, at, at+1) })
}

func (s *slowDisk) read(name string) (string, api.Errno) {
	at := s.at(name)
	switch {
	case s.down:
		return "", api.ErrDown
	case at < 0:
		return "", api.ErrFile
	}
	return s.files[at].firm + s.files[at].loose, api.OK
}

func (s *slowDisk) arm(n int) {
	if !s.down {
		s.bound, s.left = true, max(n, 0)
	}
}

func (s *slowDisk) crash(keeps []int) {
	for i, f := range s.files {
		for k := range len(f.loose) {
			if i < len(keeps) && k < keeps[i] {
				s.files[i].firm += f.loose[k : k+1]
			}
		}
		s.files[i].loose = ""
	}
	s.down, s.bound, s.left = false, false, 0
}

// reader takes a script's bytes one by one; behind its end there are noughts.
type reader struct{ rest string }

func (r *reader) next() int {
	if r.rest == "" {
		return 0
	}
	x := r.rest[0]
	r.rest = r.rest[1:]
	return int(x)
}

// name is one of few, so that files meet; some may not be.
func (r *reader) name() string {
	names := []string{"a", "b", "c", "-", "0.z", strings.Repeat("n", 40), "A", "", strings.Repeat("n", 41), "a\x00"}
	return names[r.next()%len(names)]
}

// deed does one call to both disks, and answers what they told, the two of them to be the same.
func (r *reader) deed(d *disk.Disk, s *slowDisk) (what string, got, wanted api.Errno) {
	switch what = []string{"append", "append", "append", "sync", "sync", "cut", "rename", "remove", "arm", "crash"}[r.next()%10]; what {
	case "append":
		name, b := r.name(), strings.Repeat(string([]byte{byte(r.next())}), r.next()%9)
		return what, d.Append(name, []byte(b)), s.append(name, b)
	case "sync":
		name := r.name()
		return what, d.Sync(name), s.sync(name)
	case "cut":
		name, n := r.name(), r.next()%20-1
		return what, d.Cut(name, n), s.cut(name, n)
	case "rename":
		from, to := r.name(), r.name()
		return what, d.Rename(from, to), s.rename(from, to)
	case "remove":
		name := r.name()
		return what, d.Remove(name), s.remove(name)
	case "arm":
		n := r.next()%12 - 1
		d.Arm(n)
		s.arm(n)
	case "crash":
		keeps := make([]int, r.next()%8)
		for i := range keeps {
			keeps[i] = r.next()%10 - 1
		}
		d.Crash(keeps)
		s.crash(keeps)
	}
	return what, 0, 0
}

// sameDisks complains unless d tells what s has.
func sameDisks(t *testing.T, d *disk.Disk, s *slowDisk) {
	t.Helper()
	var names []string
	for _, f := range s.files {
		names = append(names, f.name)
		if d.Size(f.name) != len(f.firm+f.loose) || d.Synced(f.name) != len(f.firm) {
			t.Fatalf("%s: Size %d, Synced %d; not %q and %q", f.name, d.Size(f.name), d.Synced(f.name), f.firm, f.loose)
		}
		b, err := d.Read(f.name)
		if wanted, why := s.read(f.name); string(b) != wanted || err != why {
			t.Fatalf("Read %s: %q, %d; not %q, %d", f.name, b, err, wanted, why)
		}
	}
	lists(t, d, names...)
	if d.Used() != s.used() || d.Down() != s.down {
		t.Fatalf("Used %d, Down %t; not %d, %t", d.Used(), d.Down(), s.used(), s.down)
	}
}

// checkScript follows a script's bytes on a disk and on a slow one.
func checkScript(t *testing.T, script string) {
	t.Helper()
	r := &reader{script}
	most := r.next() % 64
	d, s := room(t, most), &slowDisk{most: most}
	for i := 0; r.rest != ""; i++ {
		what, got, wanted := r.deed(d, s)
		if got != wanted {
			t.Fatalf("call %d of %q, %s: %d, not %d", i, script, what, got, wanted)
		}
		sameDisks(t, d, s)
		if t.Failed() {
			t.Fatalf("call %d of %q, %s", i, script, what)
		}
	}
}

// noise is n bytes that look like none in particular, others for each number.
func noise(number, n int) string {
	b := make([]byte, n)
	state := uint32(number)*2654435761 + 1
	for i := range b {
		state = state*1664525 + 1013904223
		b[i] = byte(state >> 24)
	}
	return string(b)
}

// P3.1 to P3.4: whatever is called, in whatever order, all goes as the chapter's words say.
func TestAsTheWordsSay(t *testing.T) {
	for number := range 2000 {
		checkScript(t, noise(number, 300))
	}
}

// FuzzDisk looks for calls that do not go as the chapter's words say.
func FuzzDisk(f *testing.F) {
	for number := range 20 {
		f.Add(noise(number, 40*number))
	}
	f.Fuzz(func(t *testing.T, script string) { checkScript(t, script) })
}
