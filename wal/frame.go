package wal

import (
	"slices"
	"strconv"
	"strings"

	"homestead/api"
	"homestead/bytes"
)

const (
	maxNumber = 1 << 53 // the greatest number of a record, and of a segment
	prefix    = "w"     // of a segment's name
	magic     = "HSW1"  // at the begin of a segment's head
	sealBytes = 4       // that a seal adds
)

// fileName is the name of the segment of a number.
func fileName(n int) string {
	return prefix + strconv.Itoa(n)
}

// numberOf answers the number of the segment of that name, if it is a segment's.
func numberOf(name string) (int, bool) {
	n, err := strconv.Atoi(strings.TrimPrefix(name, prefix))
	// Atoi takes more than digits without a nought ahead; fileName tells just those.
	if err != nil || n < 1 || n > maxNumber || fileName(n) != name {
		return 0, false
	}
	return n, true
}

// head is what a segment of a number begins with.
func head(n int) []byte {
	return bytes.Seal(bytes.Uint([]byte(magic), uint64(n)))
}

// hasHead tells whether b begins with the head of a segment of that number.
func hasHead(b []byte, n int) bool {
	first := head(n)
	return len(b) >= len(first) && slices.Equal(b[:len(first)], first)
}

// frame is what a record is in a segment.
func frame(n int, b []byte) []byte {
	body := append(bytes.Uint(nil, uint64(n)), b...)
	return append(bytes.Uint(nil, uint64(len(body))), bytes.Seal(body)...)
}

// recordsOf answers the records of a file's bytes, which begin with the head of a segment of the number n, and the place behind them.
func recordsOf(b []byte, n int) ([]api.Rec, int) {
	var records []api.Rec
	at := len(head(n))
	for {
		record, next, is := getFrame(b, at, n+len(records))
		if !is {
			return records, at
		}
		records = append(records, record)
		at = next
	}
}

// getFrame reads the frame at a place of b, which has to be of the record n, and tells the place behind it.
func getFrame(b []byte, at, n int) (api.Rec, int, bool) {
	size, from, err := bytes.GetUint(b, at)
	if err != api.OK {
		return api.Rec{}, 0, false
	}
	// Not size and sealBytes together: that may run over.
	if rest := len(b) - from; rest < sealBytes || size > uint64(rest-sealBytes) {
		return api.Rec{}, 0, false
	}
	next := from + int(size) + sealBytes
	body, err := bytes.Unseal(b[from:next])
	if err != api.OK {
		return api.Rec{}, 0, false
	}
	number, begin, err := bytes.GetUint(body, 0)
	if err != api.OK || number != uint64(n) {
		return api.Rec{}, 0, false
	}
	return api.Rec{N: n, B: body[begin:]}, next, true
}
