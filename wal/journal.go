package wal

import (
	"slices"

	"homestead/api"
	"homestead/disk"
)

// journal is what a disk has of one.
type journal struct {
	segments []int // their numbers, rising
	records  []api.Rec
	last     int    // one less than the number that comes next (0 without segments)
	torn     string // the last file, if it is none of the segments
	bytes    int    // of the last segment
	end      int    // where the last segment's records end
}

// read answers the journal that d has, as it stands there.
func read(d *disk.Disk) (journal, api.Errno) {
	// List tells neither that there is no disk nor that it is down. No file has this name, so that all else is well if it is not found.
	if _, err := d.Read(""); err != api.ErrFile {
		return journal{}, err
	}
	var j journal
	numbers := segmentNumbers(d.List())
	for i, n := range numbers {
		b, err := d.Read(fileName(n))
		if err != api.OK {
			return journal{}, err
		}
		if isLast := i == len(numbers)-1; !j.add(n, b, isLast) {
			return journal{}, api.ErrLog
		}
	}
	return j, api.OK
}

// add takes the file of a number behind the segments, as one of them or as torn; it tells whether that leaves a journal.
func (j *journal) add(n int, b []byte, isLast bool) bool {
	if !hasHead(b, n) {
		j.torn = fileName(n)
		return isLast
	}
	if len(j.segments) > 0 && n != j.last+1 {
		return false
	}
	records, end := recordsOf(b, n)
	if whole := len(records) > 0 && end == len(b); !whole && !isLast {
		return false
	}
	j.segments = append(j.segments, n)
	j.records = append(j.records, records...)
	j.last = n + len(records) - 1
	j.bytes, j.end = len(b), end
	return true
}

// mend takes away what is no part of the journal, and syncs the rest.
func (j *journal) mend(d *disk.Disk) api.Errno {
	if len(j.segments) == 0 {
		return j.removeTorn(d)
	}
	name := fileName(j.segments[len(j.segments)-1])
	return try(
		func() api.Errno { return j.removeTorn(d) },
		func() api.Errno {
			if j.end == j.bytes {
				return api.OK
			}
			return d.Cut(name, j.end)
		},
		func() api.Errno { return d.Sync(name) },
	)
}

// removeTorn removes the last file, if it is none of the segments.
func (j *journal) removeTorn(d *disk.Disk) api.Errno {
	if j.torn == "" {
		return api.OK
	}
	return d.Remove(j.torn)
}

// segmentNumbers are the numbers of segments, rising, of those names that are a segment's.
func segmentNumbers(names []string) []int {
	var numbers []int
	for _, name := range names {
		if n, is := numberOf(name); is {
			numbers = append(numbers, n)
		}
	}
	slices.Sort(numbers)
	return numbers
}

// try takes steps one by one, up to the first error, and answers that.
func try(steps ...func() api.Errno) api.Errno {
	for _, step := range steps {
		if err := step(); err != api.OK {
			return err
		}
	}
	return api.OK
}

// removeIfThere removes a file, if there is one of that name.
func removeIfThere(d *disk.Disk, name string) api.Errno {
	if err := d.Remove(name); err != api.ErrFile {
		return err
	}
	return api.OK
}
