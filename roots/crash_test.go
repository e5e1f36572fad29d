package roots_test

import (
	"strconv"
	"strings"
	"testing"

	"homestead/api"
	"homestead/disk"
	"homestead/roots"
)

// nth is the root that a tale writes in a turn; some have more bytes than the one ahead, some fewer.
func nth(turn int) api.Root {
	return root(0, turn*3, turn, strings.Repeat(strconv.Itoa(turn)+".", turn*7%11))
}

// crash has the power fail now, if it did not, and come back, with so many loose bytes of each file kept.
func crash(d *disk.Disk, kept int) {
	keeps := make([]int, len(d.List()))
	for i := range keeps {
		keeps[i] = kept
	}
	d.Crash(keeps)
}

// writeUpTo writes roots up to the power's failing, or so many, and answers how many were told, and whether another one was begun.
func writeUpTo(t *testing.T, d *disk.Disk, told, most int) (int, bool) {
	t.Helper()
	for ; told < most; told++ {
		got, err := roots.Write(d, nth(told+1))
		if err != api.OK {
			want(t, "Write", err, api.ErrDown)
			return told, true
		}
		if got.Serial != told+1 {
			t.Fatalf("Serial %d, not %d", got.Serial, told+1)
		}
	}
	return told, false
}

// behind complains unless the last root that was told counts, or the one that was begun; it answers that one's turn.
func behind(t *testing.T, d *disk.Disk, told int, begun bool) int {
	t.Helper()
	r, there, err := roots.Read(d)
	want(t, "Read behind a crash", err, api.OK)
	if begun && r.Serial == told+1 {
		told++
	}
	if told == 0 {
		none(t, d)
		return 0
	}
	wanted := nth(told)
	wanted.Serial = told
	if !same(r, wanted) || !there {
		t.Fatalf("behind a crash %s, %t; not %s", show(r), there, show(wanted))
	}
	return told
}

// P6.4: behind a crash at each step, whatever is kept, the root that counted counts, or the new one, and if that was told, it; and all goes on from there.
func TestCrashAtEachStep(t *testing.T) {
	for armed := range 40 {
		for kept := range 45 {
			d := room(t, 1000)
			d.Arm(armed)
			told, begun := writeUpTo(t, d, 0, 9)
			crash(d, kept)
			told = behind(t, d, told, begun)
			told, _ = writeUpTo(t, d, told, told+3)
			crash(d, kept)
			behind(t, d, told, false)
		}
	}
}

// P6.4: crashes, one soon behind the other, wherever they fall.
func TestCrashBehindCrash(t *testing.T) {
	for first := range 13 {
		for second := range 9 {
			for kept := range 24 {
				d, told, begun := room(t, 1000), 0, false
				for _, armed := range []int{first, second, first + second, 2} {
					d.Arm(armed)
					told, begun = writeUpTo(t, d, told, told+5)
					crash(d, kept)
					told = behind(t, d, told, begun)
				}
				writeUpTo(t, d, told, told+3)
			}
		}
	}
}

// P6.4: up to the rename the root that counted counts, though the new one lies there wholly.
func TestNothingCountsAheadOfTheRename(t *testing.T) {
	for armed, serial := range []int{2, 2, 2, 3} {
		d := room(t, 1000)
		writeUpTo(t, d, 0, 2)
		d.Arm(armed)
		roots.Write(d, nth(3))
		crash(d, 1000)
		wanted := nth(serial)
		wanted.Serial = serial
		counts(t, d, wanted)
	}
}
