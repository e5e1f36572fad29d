package pages

import (
	"slices"
	"strconv"
	"strings"

	"homestead/api"
	"homestead/disk"
)

const (
	maxNumber   = 1 << 53 // the greatest number of a commit
	indexPrefix = "i"     // of an index's name
	packPrefix  = "c"     // of a pack's
	newIndex    = "i.new" // an index that is no commit yet
)

// indexName is the name of the index of a commit.
func indexName(number int) string {
	return indexPrefix + strconv.Itoa(number)
}

// packName is the name of the pack of a number.
func packName(number int) string {
	return packPrefix + strconv.Itoa(number)
}

// filesOf are the names of the files on which a commit rests. Of commit 0, which has none, that is i0, which no commit's file is called.
func filesOf(number int, keys map[string]blob) []string {
	names := []string{indexName(number)}
	for _, pack := range packsOf(keys) {
		names = append(names, packName(pack))
	}
	return names
}

// others are those names, in their order, that files of commits have, but for the ones on which a commit rests.
func others(names, files []string) []string {
	return slices.DeleteFunc(names, func(name string) bool {
		return !isOfCommits(name) || slices.Contains(files, name)
	})
}

// isOfCommits tells whether an index or a pack may have that name, or an index that is new.
func isOfCommits(name string) bool {
	return name == newIndex || isNumbered(name, indexPrefix) || isNumbered(name, packPrefix)
}

// isNumbered tells whether a name is that prefix and the digits of a commit's number.
func isNumbered(name, prefix string) bool {
	n, err := strconv.Atoi(strings.TrimPrefix(name, prefix))
	// Atoi takes more than digits without a nought ahead; Itoa tells just those.
	return err == nil && n >= 1 && n <= maxNumber && name == prefix+strconv.Itoa(n)
}

// read answers the keys of the commit that d has of that number, ErrLog if it has none.
func read(d *disk.Disk, number int) (map[string]blob, api.Errno) {
	if number == 0 {
		// List tells neither that there is no disk nor that it is down. No file has this name, so that all else is well if it is not found.
		if _, err := d.Read(""); err != api.ErrFile {
			return nil, err
		}
		return map[string]blob{}, api.OK
	}
	b, err := readPart(d, indexName(number))
	if err != api.OK {
		return nil, err
	}
	entries, is := parse(b, number)
	if !is {
		return nil, api.ErrLog
	}
	return readBlobs(d, entries)
}

// readBlobs answers the keys of an index with their blobs, ErrLog if they are not all there.
func readBlobs(d *disk.Disk, entries []entry) (map[string]blob, api.Errno) {
	keys := map[string]blob{}
	packs := map[int][]byte{}
	for _, e := range entries {
		pack, there := packs[e.pack]
		if !there {
			var err api.Errno
			if pack, err = readPart(d, packName(e.pack)); err != api.OK {
				return nil, err
			}
			packs[e.pack] = pack
		}
		if e.place+e.size > len(pack) {
			return nil, api.ErrLog
		}
		// Blobs may lie upon one another: in memory of their own they might be hundreds of times as many bytes as the disk has.
		keys[e.key] = blob{bytes: pack[e.place : e.place+e.size], pack: e.pack, place: e.place}
	}
	return keys, api.OK
}

// readPart answers the bytes of a file without which there is no commit.
func readPart(d *disk.Disk, name string) ([]byte, api.Errno) {
	b, err := d.Read(name)
	if err == api.ErrFile {
		return nil, api.ErrLog
	}
	return b, err
}

// writeAnew has a file of that name with those bytes alone, all of them firm.
func writeAnew(d *disk.Disk, name string, b []byte) api.Errno {
	return try(
		func() api.Errno { return removeIfThere(d, name) },
		func() api.Errno { return d.Append(name, b) },
		func() api.Errno { return d.Sync(name) },
	)
}

// removeIfThere removes a file, if there is one of that name.
func removeIfThere(d *disk.Disk, name string) api.Errno {
	if err := d.Remove(name); err != api.ErrFile {
		return err
	}
	return api.OK
}

// try takes steps one by one, up to the first error, and answers that.
func try(steps ...func() api.Errno) api.Errno {
	for _, step := range steps {
		if err := step(); err != api.OK {
			return err
		}
	}
	return api.OK
}
