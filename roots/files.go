package roots

import (
	"strconv"

	"homestead/api"
	"homestead/disk"
)

const (
	prefix  = "root"     // of the name of a root's file
	newFile = "root.new" // a root that does not count yet
)

// fileName is the name of the file for the root of a serial number.
func fileName(serial int) string {
	return prefix + strconv.Itoa(serial%2)
}

// readFile answers the root that the file of a last digit has; its Serial is 0, which no root has, if there is none.
func readFile(d *disk.Disk, digit int) (api.Root, api.Errno) {
	b, err := d.Read(fileName(digit))
	if err == api.ErrFile {
		return api.Root{}, api.OK
	}
	if err != api.OK {
		return api.Root{}, err
	}
	r, err := Parse(b)
	if err != api.OK || r.Serial%2 != digit {
		return api.Root{}, api.OK
	}
	return r, api.OK
}

// writeFile has a file of that name with those bytes alone; up to its last step the one that was there stays as it was.
func writeFile(d *disk.Disk, name string, b []byte) api.Errno {
	steps := []func() api.Errno{
		func() api.Errno { return removeIfThere(d, newFile) },
		func() api.Errno { return d.Append(newFile, b) },
		func() api.Errno { return d.Sync(newFile) },
		func() api.Errno { return d.Rename(newFile, name) },
	}
	for _, step := range steps {
		if err := step(); err != api.OK {
			return err
		}
	}
	return api.OK
}

// removeIfThere removes a file, if there is one of that name.
func removeIfThere(d *disk.Disk, name string) api.Errno {
	if err := d.Remove(name); err != api.ErrFile {
		return err
	}
	return api.OK
}
