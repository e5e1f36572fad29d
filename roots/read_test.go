package roots_test

import (
	"maps"
	"testing"

	"homestead/api"
	"homestead/disk"
	"homestead/roots"
)

// P6.2: a root is its name's if its Serial ends so; of two the one of the greater Serial counts.
func TestWhichCounts(t *testing.T) {
	odd, even := root(7, 5, 2, "odd"), root(8, 6, 3, "even")
	lower, far := root(6, 9, 9, "lower"), root(maxNumber, 1, 1, "far")
	for _, c := range []struct {
		what    string
		stands  files
		counted api.Root // of Serial 0: none
	}{
		{"nothing", files{}, api.Root{}},
		{"root1 alone", files{"root1": text(odd)}, odd},
		{"root0 alone", files{"root0": text(even)}, even},
		{"root0 next", files{"root0": text(even), "root1": text(odd)}, even},
		{"root1 next", files{"root0": text(lower), "root1": text(odd)}, odd},
		{"far from one another", files{"root0": text(far), "root1": text(odd)}, far},
		{"by the Serial alone", files{"root0": text(root(2, 9, 9, "zzz")), "root1": text(root(3, 0, 0, ""))}, root(3, 0, 0, "")},
		{"the first of all", files{"root1": text(api.Root{Serial: 1})}, api.Root{Serial: 1}},
		{"each in the other's file", files{"root0": text(odd), "root1": text(even)}, api.Root{}},
		{"a greater one in root1, which is root0's", files{"root0": text(lower), "root1": text(even)}, lower},
		{"a greater one in root0, which is root1's", files{"root0": text(root(9, 9, 9, "")), "root1": text(odd)}, odd},
		{"root0 empty", files{"root0": "", "root1": text(odd)}, odd},
		{"root1 spoilt", files{"root0": text(lower), "root1": text(odd)[1:]}, lower},
		{"both spoilt", files{"root0": text(even) + "x", "root1": text(odd)[:9]}, api.Root{}},
		{"no right number", files{"root0": text(root(0, 5, 2, "")), "root1": text(root(maxNumber+1, 5, 2, ""))}, api.Root{}},
		{"not a root's", files{"root0": sealed("HSI1\x02\x00\x00\x00"), "root1": sealed("")}, api.Root{}},
	} {
		t.Run(c.what, func(t *testing.T) {
			stands := maps.Clone(c.stands)
			// Nobody else's file is a root's, whatever it has.
			for _, name := range []string{"root", "root.new", "root2", "root3", "root00", "root01", "root-1", "0", "1", "xroot1", "i1", "c1", "w1"} {
				stands[name] = text(root(maxNumber-1, 1, 1, "another"))
			}
			d := lay(t, stands)
			d.Arm(0)
			for range 2 {
				if c.counted.Serial > 0 {
					counts(t, d, c.counted)
				} else {
					none(t, d)
				}
			}
			if d.Down() {
				t.Error("a step was taken")
			}
			like(t, d, stands)
		})
	}
}

// P6.2: bytes that are loose are a file's, too, as long as no crash takes them.
func TestReadOfLooseBytes(t *testing.T) {
	first, second := root(1, 5, 2, "one"), root(2, 6, 3, "two")
	d := lay(t, files{"root1": text(first)})
	want(t, "Append", d.Append("root0", []byte(text(second))), api.OK)
	counts(t, d, second)
	d.Crash([]int{len(text(second)) - 1})
	counts(t, d, first)
}

// downs are disks with files, and without, whose power has failed.
func downs(t *testing.T) []*disk.Disk {
	t.Helper()
	disks := []*disk.Disk{room(t, 0), lay(t, files{"root0": text(root(2, 6, 3, ""))}), lay(t, files{"root1": text(root(1, 5, 2, "")), "root.new": ""})}
	for _, d := range disks {
		d.Arm(0)
		want(t, "a step", d.Append("x", nil), api.ErrDown)
	}
	return disks
}

// noDisks are disks that New did not answer.
func noDisks(t *testing.T) map[string]*disk.Disk {
	t.Helper()
	copied := *lay(t, files{"root1": text(root(1, 5, 2, "one"))})
	return map[string]*disk.Disk{"nil": nil, "of zeros": {}, "copied": &copied}
}

// P6.2, R5: the disk's errors, and nothing beside.
func TestReadErrors(t *testing.T) {
	for what, d := range noDisks(t) {
		refuses(t, what, d, api.ErrNil)
	}
	for _, d := range downs(t) {
		refuses(t, "down", d, api.ErrDown)
		d.Crash(nil)
		if _, _, err := roots.Read(d); err != api.OK {
			t.Errorf("behind the crash: %d", err)
		}
	}
}
