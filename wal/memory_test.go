package wal_test

import (
	"math"
	"slices"
	"strings"
	"testing"

	"homestead/api"
	"homestead/wal"
)

// noLogs are logs that Open did not answer.
func noLogs(t *testing.T) map[string]*wal.Log {
	t.Helper()
	_, made := spread(t)
	copied := *made
	_, emptied := spread(t)
	*emptied = wal.Log{}
	_, other := spread(t)
	*other = *made
	d, over := spread(t)
	d.Arm(0)
	want(t, "Sync", over.Sync(), api.ErrDown)
	ended := *over
	return map[string]*wal.Log{
		"nil": nil, "of zeros": {}, "new": new(wal.Log), "copied": &copied, "emptied": emptied, "overwritten": other, "copied when over": &ended,
	}
}

// R5: no log answers zeros, and ErrNil ahead of every other error.
func TestNoLog(t *testing.T) {
	for what, l := range noLogs(t) {
		for range 2 {
			want(t, what+": Append", l.Append(14, []byte("a")), api.ErrNil)
			want(t, what+": Append: number", l.Append(0, make([]byte, api.MaxRec+1)), api.ErrNil)
			want(t, what+": Sync", l.Sync(), api.ErrNil)
			for _, below := range []int{math.MinInt, 0, 13, math.MaxInt} {
				names, err := l.Trim(below)
				if len(names) > 0 || err != api.ErrNil {
					t.Errorf("%s: Trim: %q, %d", what, names, err)
				}
			}
			if l.First() != 0 || l.Last() != 0 || l.Synced() != 0 || l.Over() || len(l.Files()) > 0 {
				t.Errorf("%s: First %d, Last %d, Synced %d, Over %t, Files %q", what, l.First(), l.Last(), l.Synced(), l.Over(), l.Files())
			}
		}
	}
}

// R5: what is done to a copy is not done to the log.
func TestCopyLeavesTheLog(t *testing.T) {
	d, l := spread(t)
	copied := *l
	want(t, "Append", copied.Append(14, nil), api.ErrNil)
	copied.Trim(13)
	tells(t, l, 7, 13, 13, "w7", "w8", "w10", "w13")
	put(t, l, 14, "h")
	has(t, d, "w13", segment(13, "g"), frame(14, "h"))
}

// R3: a record that is handed in is neither kept nor changed, its spare room neither.
func TestAppendKeepsNothing(t *testing.T) {
	d := room(t, 1000)
	l, _ := open(t, d, 64)
	whole := []byte("abcdefgh")
	want(t, "Append", l.Append(7, whole[2:4]), api.OK)
	want(t, "Append", l.Append(8, whole[:0]), api.OK)
	want(t, "Append", l.Append(9, nil), api.OK)
	if string(whole) != "abcdefgh" {
		t.Errorf("handed in bytes became %q", whole)
	}
	spoil(whole)
	has(t, d, "w7", head(7), frame(7, "cd")+frame(8, "")+frame(9, ""))
}

// spoil writes over all bytes of b, and its spare room.
func spoil(b []byte) {
	b = b[:cap(b)]
	for i := range b {
		b[i] = '#'
	}
}

// R3: records share no memory with one another, nor with the disk, nor with the log.
func TestRecordsAreNew(t *testing.T) {
	d := room(t, 1000)
	texts := []string{"a", "", strings.Repeat("b", 64), "c", ""}
	filled(t, d, 64, 7, texts...)
	l, got := open(t, d, 64)
	_, second := open(t, d, 64)
	for i := range got {
		records(t, got[i:], 7+i, texts[i:]...)
		spoil(got[i].B)
		records(t, got[i+1:], 7+i+1, texts[i+1:]...)
	}
	clear(got)
	records(t, second, 7, texts...)
	put(t, l, 12, "more")
	_, third := open(t, d, 64)
	records(t, third, 7, append(texts, "more")...)
}

// R3: names are told in new lists each time.
func TestNamesAreNew(t *testing.T) {
	_, l := spread(t)
	first, second := l.Files(), l.Files()
	clear(first[:cap(first)])
	if wanted := []string{"w7", "w8", "w10", "w13"}; !slices.Equal(second, wanted) {
		t.Errorf("told ahead: %q", second)
	}
	names, err := l.Trim(10)
	if wanted := []string{"w7", "w8"}; !slices.Equal(names, wanted) || err != api.OK {
		t.Errorf("Trim: %q, %d", names, err)
	}
	clear(names[:cap(names)])
	tells(t, l, 10, 13, 13, "w10", "w13")
	if wanted := []string{"w7", "w8", "w10", "w13"}; !slices.Equal(second, wanted) {
		t.Errorf("told ahead: %q", second)
	}
}
