package wal_test

import (
	"strconv"
	"strings"
	"testing"

	"homestead/api"
	"homestead/disk"
	"homestead/wal"
)

// tale is a journal's past: what was appended, and what a crash has to leave of that.
type tale struct {
	disk   *disk.Disk
	log    *wal.Log
	texts  map[int]string // of the records that were appended and not lost
	synced int            // up to which number they are, at least
	first  int            // the first segment's number, 0 without
	turn   int
}

// begin is a tale of a new disk.
func begin(t *testing.T) *tale {
	t.Helper()
	d := room(t, 100_000)
	l, _ := open(t, d, 64)
	return &tale{disk: d, log: l, texts: map[int]string{}}
}

// append appends the next record, with a text that no other one has.
func (s *tale) append(n int) api.Errno {
	text := strings.Repeat(strconv.Itoa(s.turn)+".", s.turn*7%20)
	err := s.log.Append(n, []byte(text))
	if err == api.OK {
		s.texts[n] = text
	}
	return err
}

// goOn does the tale's next thing, and tells its error.
func (s *tale) goOn() api.Errno {
	s.turn++
	switch s.turn % 8 {
	case 3, 6:
		return s.log.Sync()
	case 7:
		_, err := s.log.Trim(s.log.Synced() - 4)
		return err
	}
	if s.log.First() == 0 {
		return s.append(95)
	}
	return s.append(s.log.Last() + 1)
}

// note remembers how far all is to outlive a crash.
func (s *tale) note() {
	s.synced, s.first = s.log.Synced(), s.log.First()
}

// crash has the power fail now, if it did not, and come back, with so many loose bytes of each file kept.
func (s *tale) crash(kept int) {
	keeps := make([]int, len(s.disk.List()))
	for i := range keeps {
		keeps[i] = kept
	}
	s.disk.Crash(keeps)
}

// open opens the journal behind a crash, and complains unless it has, without a gap, what was synced, and perhaps more that was appended.
func (s *tale) open(t *testing.T) {
	t.Helper()
	l, got := open(t, s.disk, 64)
	for i, record := range got {
		if text, there := s.texts[record.N]; !there || string(record.B) != text || record.N != got[0].N+i {
			t.Fatalf("record %d, the %d-th: %q, not %q", record.N, i, record.B, text)
		}
	}
	if s.first > 0 && (l.First() != s.first || l.Last() < s.synced || len(got) != l.Last()-l.First()+1) {
		t.Fatalf("%d records, First %d, Last %d; not %d, and %d at least", len(got), l.First(), l.Last(), s.first, s.synced)
	}
	if s.first == 0 && len(got) > 0 {
		t.Fatalf("%d records of nothing", len(got))
	}
	for n := range s.texts {
		if n > l.Last() {
			delete(s.texts, n)
		}
	}
	s.log = l
	s.note()
}

// tellUpTo tells a tale, of so many turns, whose power fails behind so many steps.
func tellUpTo(t *testing.T, turns, armed int) *tale {
	t.Helper()
	s := begin(t)
	s.disk.Arm(armed)
	for range turns {
		if err := s.goOn(); err != api.OK {
			want(t, "turn "+strconv.Itoa(s.turn), err, api.ErrDown)
			break
		}
	}
	s.note()
	return s
}

// P4.5: behind a crash at each step, whatever is kept, what was synced is there, and nothing else than was appended; and all goes on from there.
func TestCrashAtEachStep(t *testing.T) {
	for armed := range 60 {
		for _, kept := range []int{0, 1, 2, 3, 5, 8, 10, 11, 13, 20, 30, 50, 80, 1000} {
			s := tellUpTo(t, 24, armed)
			s.crash(kept)
			s.open(t)
			for range 16 {
				want(t, "behind the crash", s.goOn(), api.OK)
			}
			s.note()
			s.crash(kept)
			s.open(t)
		}
	}
}

// P4.5: every number of loose bytes, at the begin of a journal, of a segment, and within one.
func TestCrashKeepsEachCount(t *testing.T) {
	for armed := range 20 {
		for kept := range 120 {
			s := tellUpTo(t, 10, armed)
			s.crash(kept)
			s.open(t)
		}
	}
}

// P4.5: a crash within Open, behind one at any step, takes nothing either.
func TestCrashWithinOpen(t *testing.T) {
	for armed := range 40 {
		for _, kept := range []int{0, 1, 4, 9, 11, 12, 25, 1000} {
			for within := range 3 {
				s := tellUpTo(t, 20, armed)
				s.crash(kept)
				s.disk.Arm(within)
				l, got, err := wal.Open(s.disk, 64)
				if err != api.OK && (l != nil || len(got) > 0 || err != api.ErrDown) {
					t.Fatalf("Open: %v, %v, %d", l, got, err)
				}
				s.crash(kept)
				s.open(t)
			}
		}
	}
}

// P4.5: a crash in which nothing was loose leaves all, byte by byte.
func TestCrashOfASyncedOne(t *testing.T) {
	s := tellUpTo(t, 30, 1<<20)
	want(t, "Sync", s.log.Sync(), api.OK)
	first, last, names := s.log.First(), s.log.Last(), s.log.Files()
	s.note()
	s.crash(0)
	s.open(t)
	tells(t, s.log, first, last, last, names...)
}
