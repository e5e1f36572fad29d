package wal_test

import (
	"math"
	"slices"
	"strconv"
	"strings"
	"testing"

	"homestead/api"
	"homestead/disk"
	"homestead/wal"
)

// isOver complains unless a log is over, takes no more, whatever it is handed, and tells these numbers and names.
func isOver(t *testing.T, l *wal.Log, first, last, synced int, names ...string) {
	t.Helper()
	for range 2 {
		if l.First() != first || l.Last() != last || l.Synced() != synced || !slices.Equal(l.Files(), names) || !l.Over() {
			t.Errorf("First %d, Last %d, Synced %d, Files %q, Over %t; not %d, %d, %d, %q, true",
				l.First(), l.Last(), l.Synced(), l.Files(), l.Over(), first, last, synced, names)
		}
		want(t, "Append", l.Append(last+1, nil), api.ErrEnded)
		want(t, "Append: number", l.Append(0, make([]byte, api.MaxRec+1)), api.ErrEnded)
		want(t, "Sync", l.Sync(), api.ErrEnded)
		for _, below := range []int{math.MinInt, 0, math.MaxInt} {
			gone, err := l.Trim(below)
			want(t, "Trim", err, api.ErrEnded)
			if len(gone) > 0 {
				t.Errorf("Trim: %q", gone)
			}
		}
	}
}

// endsAt has the power of d fail at each step of a call of l's, behind which power is back, and answers the logs.
func endsAt(t *testing.T, steps int, make func() (*disk.Disk, *wal.Log), call func(l *wal.Log) api.Errno) []*wal.Log {
	t.Helper()
	var logs []*wal.Log
	for armed := range steps + 1 {
		d, l := make()
		d.Arm(armed)
		err := call(l)
		if armed == steps {
			want(t, "with all steps", err, api.OK)
			want(t, "a step behind them", d.Append("x", nil), api.ErrDown)
			break
		}
		want(t, "armed for "+strconv.Itoa(armed), err, api.ErrDown)
		d.Crash([]int{1000, 1000, 1000})
		before := d.List()
		logs = append(logs, l)
		l.Append(l.Last()+1, nil)
		l.Sync()
		lists(t, d, before...)
	}
	return logs
}

// P4.2: a first Append takes three steps of the disk's; what was done of them counts.
func TestFirstAppendFails(t *testing.T) {
	empty := func() (*disk.Disk, *wal.Log) {
		d := room(t, 1000)
		l, _ := open(t, d, 64)
		return d, l
	}
	logs := endsAt(t, 3, empty, func(l *wal.Log) api.Errno { return l.Append(7, []byte("a")) })
	isOver(t, logs[0], 0, 0, 0)
	isOver(t, logs[1], 0, 0, 0)
	isOver(t, logs[2], 7, 6, 6, "w7")
}

// P4.2: a file of that name that has to go takes a step, too.
func TestAppendOntoAFileFails(t *testing.T) {
	occupied := func() (*disk.Disk, *wal.Log) {
		d := room(t, 1000)
		l, _ := open(t, d, 64)
		want(t, "Append w7", d.Append("w7", []byte("other")), api.OK)
		return d, l
	}
	logs := endsAt(t, 4, occupied, func(l *wal.Log) api.Errno { return l.Append(7, []byte("a")) })
	isOver(t, logs[0], 0, 0, 0)
	isOver(t, logs[1], 0, 0, 0)
	isOver(t, logs[2], 0, 0, 0)
	isOver(t, logs[3], 7, 6, 6, "w7")
}

// P4.2: a record behind others takes one step; at the begin of another segment four, the first of which syncs the records.
func TestNextAppendFails(t *testing.T) {
	for size, ends := range map[int][][2]int{1000: {{8, 6}}, 64: {{8, 6}, {8, 8}, {8, 8}, {8, 8}}} {
		held := func() (*disk.Disk, *wal.Log) {
			d := room(t, 1000)
			l, _ := open(t, d, size)
			put(t, l, 7, "a")
			put(t, l, 8, strings.Repeat("b", 64))
			return d, l
		}
		logs := endsAt(t, len(ends), held, func(l *wal.Log) api.Errno { return l.Append(9, []byte("c")) })
		for i, end := range ends {
			names := []string{"w7"}
			if i == 3 {
				names = append(names, "w9")
			}
			isOver(t, logs[i], 7, end[0], end[1], names...)
		}
	}
}

// P4.3: Sync takes one step, if there is a segment, whether anything is loose or not.
func TestSyncFails(t *testing.T) {
	for _, loose := range []bool{true, false} {
		held := func() (*disk.Disk, *wal.Log) {
			d := room(t, 1000)
			l, _ := open(t, d, 64)
			put(t, l, 7, "a")
			if !loose {
				want(t, "Sync", l.Sync(), api.OK)
			}
			return d, l
		}
		logs := endsAt(t, 1, held, (*wal.Log).Sync)
		if loose {
			isOver(t, logs[0], 7, 7, 6, "w7")
		} else {
			isOver(t, logs[0], 7, 7, 7, "w7")
		}
	}
	d := room(t, 1000)
	l, _ := open(t, d, 64)
	d.Arm(0)
	want(t, "Sync without segments", l.Sync(), api.OK)
	tells(t, l, 0, 0, 0)
}

// P4.3: Trim takes a step a file; at an error it tells those that went.
func TestTrimFails(t *testing.T) {
	all := []string{"w7", "w8", "w10", "w13"}
	for armed := range 4 {
		d, l := spread(t)
		d.Arm(armed)
		names, err := l.Trim(13)
		if !slices.Equal(names, all[:armed]) {
			t.Errorf("armed for %d: %q", armed, names)
		}
		if armed == 3 {
			want(t, "with all steps", err, api.OK)
			tells(t, l, 13, 13, 13, "w13")
			continue
		}
		want(t, "armed for "+strconv.Itoa(armed), err, api.ErrDown)
		isOver(t, l, []int{7, 8, 10}[armed], 13, 13, all[armed:]...)
		d.Crash(nil)
		l, _ = open(t, d, 64)
		tells(t, l, []int{7, 8, 10}[armed], 13, 13, all[armed:]...)
	}
	d, l := spread(t)
	d.Arm(0)
	names, err := l.Trim(7)
	if len(names) > 0 || err != api.OK {
		t.Errorf("Trim of nothing: %q, %d", names, err)
	}
	tells(t, l, 7, 13, 13, all...)
}

// P4.2: a disk without room ends the log, in the middle of a segment and at the begin of one; what was synced stays.
func TestNoRoom(t *testing.T) {
	d := room(t, len(segment(7, "abc"))+3)
	l := filled(t, d, 64, 7, "abc")
	want(t, "Append", l.Append(8, []byte("b")), api.ErrFull)
	isOver(t, l, 7, 7, 7, "w7")
	has(t, d, "w7", segment(7, "abc"), "")
	l, got := open(t, d, 64)
	records(t, got, 7, "abc")
	tells(t, l, 7, 7, 7, "w7")

	d = room(t, len(head(7))-1)
	l, _ = open(t, d, 64)
	want(t, "Append", l.Append(7, nil), api.ErrFull)
	isOver(t, l, 0, 0, 0)
	lists(t, d)

	long := strings.Repeat("a", 64)
	d = room(t, len(segment(7, long))+len(head(8)))
	l, _ = open(t, d, 64)
	put(t, l, 7, long)
	want(t, "Append", l.Append(8, nil), api.ErrFull)
	isOver(t, l, 7, 7, 7, "w7", "w8")
	has(t, d, "w7", segment(7, long), "")
	has(t, d, "w8", head(8), "")
}

// P4.2: a disk with the most files that there may be has no room for another segment.
func TestNoRoomForAFile(t *testing.T) {
	d := room(t, 100_000)
	l, _ := open(t, d, 64)
	long := strings.Repeat("a", 64)
	for n := 1; n <= api.MaxFiles; n++ {
		put(t, l, n, long)
	}
	want(t, "Append", l.Append(api.MaxFiles+1, nil), api.ErrFull)
	if l.Last() != api.MaxFiles || l.Synced() != api.MaxFiles || len(l.Files()) != api.MaxFiles || !l.Over() {
		t.Errorf("Last %d, Synced %d, %d files, Over %t", l.Last(), l.Synced(), len(l.Files()), l.Over())
	}
	l, got := open(t, d, 64)
	if len(got) != api.MaxFiles || l.Last() != api.MaxFiles {
		t.Errorf("%d records, Last %d", len(got), l.Last())
	}
	if names, err := l.Trim(2); len(names) != 1 || err != api.OK {
		t.Errorf("Trim: %q, %d", names, err)
	}
	put(t, l, api.MaxFiles+1, "")
}

// P4.2, P4.3: a segment that was taken away behind the log's back is an error of the disk's.
func TestFileIsGone(t *testing.T) {
	for what, call := range map[string]func(l *wal.Log) api.Errno{
		"Sync":   (*wal.Log).Sync,
		"Append": func(l *wal.Log) api.Errno { return l.Append(9, nil) },
	} {
		d := room(t, 1000)
		l := filled(t, d, 64, 7, "a", strings.Repeat("b", 64))
		want(t, "Remove", d.Remove("w7"), api.OK)
		want(t, what, call(l), api.ErrFile)
		isOver(t, l, 7, 8, 8, "w7")
		lists(t, d)
	}
	d, l := spread(t)
	want(t, "Remove", d.Remove("w8"), api.OK)
	names, err := l.Trim(13)
	if !slices.Equal(names, []string{"w7"}) || err != api.ErrFile {
		t.Errorf("Trim: %q, %d", names, err)
	}
	isOver(t, l, 8, 13, 13, "w8", "w10", "w13")
}

// P4.1: a log that is over says nothing of others on the same disk.
func TestOverIsOneLogs(t *testing.T) {
	d := room(t, 1000)
	l := filled(t, d, 64, 7, "a")
	d.Arm(0)
	want(t, "Append", l.Append(8, nil), api.ErrDown)
	d.Crash(nil)
	other, _ := open(t, d, 64)
	put(t, other, 8, "b")
	tells(t, other, 7, 8, 7, "w7")
	isOver(t, l, 7, 7, 7, "w7")
}
