package bytes_test

import (
	"encoding/binary"
	"math"
	"slices"
	"strings"
	"testing"

	"homestead/api"
	"homestead/bytes"
)

// uints are numbers at which a varint's form changes, and their neighbours.
func uints() []uint64 {
	all := []uint64{0, 1, 2, 300, 1 << 53, math.MaxUint64}
	for shift := 1; shift < 64; shift++ {
		edge := uint64(1) << shift
		all = append(all, edge-1, edge, edge+1)
	}
	slices.Sort(all)
	return slices.Compact(all)
}

// ints are numbers at which a signed varint's form changes, and their neighbours.
func ints() []int64 {
	var all []int64
	for _, n := range uints() {
		all = append(all, int64(n), -int64(n), -1-int64(n))
	}
	slices.Sort(all)
	return slices.Compact(all)
}

// slowVarint follows the chapter's word by word.
func slowVarint(n uint64) []byte {
	if n < 128 {
		return []byte{byte(n)}
	}
	return append([]byte{byte(128 + n%128)}, slowVarint(n/128)...)
}

// roomy is text as bytes with spare room behind it, and that room.
func roomy(text string) ([]byte, []byte) {
	whole := []byte(text + strings.Repeat("#", 32))
	return whole[:len(text)], whole[len(text):]
}

// P1.1: the chapter's examples, and the ends of what there may be.
func TestUintPuts(t *testing.T) {
	for n, want := range map[uint64]string{
		0: "\x00", 1: "\x01", 127: "\x7f", 128: "\x80\x01", 300: "\xac\x02",
		16383: "\xff\x7f", 16384: "\x80\x80\x01",
		1<<63 - 1:      "\xff\xff\xff\xff\xff\xff\xff\xff\x7f",
		1 << 63:        "\x80\x80\x80\x80\x80\x80\x80\x80\x80\x01",
		math.MaxUint64: "\xff\xff\xff\xff\xff\xff\xff\xff\xff\x01",
	} {
		if got := string(bytes.Uint(nil, n)); got != want {
			t.Errorf("Uint of %d: %q", n, got)
		}
	}
	for _, n := range uints() {
		if got := bytes.Uint(nil, n); !slices.Equal(got, slowVarint(n)) {
			t.Errorf("Uint of %d: %v", n, got)
		}
	}
}

// P1.1: the chapter's examples, and the ends of what there may be.
func TestIntPuts(t *testing.T) {
	for n, want := range map[int64]string{
		0: "\x00", -1: "\x01", 1: "\x02", -2: "\x03", 2: "\x04", 63: "\x7e", -64: "\x7f", 64: "\x80\x01",
		math.MaxInt64: "\xfe\xff\xff\xff\xff\xff\xff\xff\xff\x01",
		math.MinInt64: "\xff\xff\xff\xff\xff\xff\xff\xff\xff\x01",
	} {
		if got := string(bytes.Int(nil, n)); got != want {
			t.Errorf("Int of %d: %q", n, got)
		}
	}
	for _, n := range ints() {
		if got := bytes.Int(nil, n); !slices.Equal(got, binary.AppendVarint(nil, n)) {
			t.Errorf("Int of %d: %v", n, got)
		}
	}
}

// P1.1: a blob is how many bytes there are, then they.
func TestBlobPuts(t *testing.T) {
	long := strings.Repeat("x", 300)
	for text, want := range map[string]string{"": "\x00", "ab": "\x02ab", "\x00\xff": "\x02\x00\xff", long: "\xac\x02" + long} {
		if got := string(bytes.Blob(nil, []byte(text))); got != want {
			t.Errorf("Blob of %q: %q", text, got)
		}
	}
	if got := string(bytes.Blob([]byte{}, nil)); got != "\x00" {
		t.Errorf("Blob of none: %q", got)
	}
}

// P1.1, R3: what is put stands behind out; out and b stay as they were.
func TestPutsBehindOut(t *testing.T) {
	out, _ := roomy("out")
	if got := string(bytes.Uint(out, 300)); got != "out\xac\x02" {
		t.Errorf("Uint: %q", got)
	}
	if got := string(bytes.Int(out, -64)); got != "out\x7f" {
		t.Errorf("Int: %q", got)
	}
	if got := string(bytes.Blob(out, []byte("ab"))); got != "out\x02ab" {
		t.Errorf("Blob: %q", got)
	}
	if string(out) != "out" {
		t.Errorf("out became %q", out)
	}
}

// P1.1, R3: b is put as it was, and stays so, even in out's spare room.
func TestBlobOfSpareRoom(t *testing.T) {
	whole := []byte("outabcdef")
	if got := string(bytes.Blob(whole[:3], whole[3:7])); got != "out\x04abcd" {
		t.Errorf("Blob: %q", got)
	}
	if string(whole) != "outabcdef" {
		t.Errorf("handed in bytes became %q", whole)
	}
}

// P1.2: what a varint says, and the place behind it.
func TestGetUintReads(t *testing.T) {
	for _, n := range uints() {
		b := append(bytes.Uint([]byte{200, 9}, n), 128, 7)
		got, next, err := bytes.GetUint(b, 2)
		if got != n || next != len(b)-2 || err != api.OK {
			t.Errorf("GetUint of %d: %d, %d, %d", n, got, next, err)
		}
	}
}

// P1.2: what a signed varint says, and the place behind it.
func TestGetIntReads(t *testing.T) {
	for _, n := range ints() {
		b := append(bytes.Int([]byte{200, 9}, n), 128, 7)
		got, next, err := bytes.GetInt(b, 2)
		if got != n || next != len(b)-2 || err != api.OK {
			t.Errorf("GetInt of %d: %d, %d, %d", n, got, next, err)
		}
	}
}

// P1.2: each error of GetUint and GetInt, in the chapter's order, with zeros beside it.
func TestGetNumberErrors(t *testing.T) {
	nine := strings.Repeat("\x80", 9)
	for _, c := range []struct {
		text string
		at   int
		want api.Errno
	}{
		{"\x01", -1, api.ErrArg},
		{"\x01", math.MinInt, api.ErrArg},
		{"\x01", 2, api.ErrArg},
		{"\x01", math.MaxInt, api.ErrArg},
		{"", 1, api.ErrArg},
		{"", -1, api.ErrArg},
		{"\x80", 2, api.ErrArg},
		{"", 0, api.ErrShort},
		{"\x01", 1, api.ErrShort},
		{"\x80", 0, api.ErrShort},
		{"\x01\xff\xff", 1, api.ErrShort},
		{nine, 0, api.ErrShort},
		{"\x01" + nine, 1, api.ErrShort},
		{nine + "\x80", 0, api.ErrBytes},
		{nine + "\x80\x01", 0, api.ErrBytes},
		{nine + "\x80", 1, api.ErrShort},
		{nine + "\x00", 0, api.ErrBytes},
		{nine + "\x02", 0, api.ErrBytes},
		{nine + "\x7f", 0, api.ErrBytes},
		{"\x80\x00", 0, api.ErrBytes},
		{"\xff\x00", 0, api.ErrBytes},
		{"\x01\x80\x80\x00\x05", 1, api.ErrBytes},
	} {
		b := []byte(c.text)
		if n, next, err := bytes.GetUint(b, c.at); n != 0 || next != 0 || err != c.want {
			t.Errorf("GetUint(%q, %d): %d, %d, %d", c.text, c.at, n, next, err)
		}
		if n, next, err := bytes.GetInt(b, c.at); n != 0 || next != 0 || err != c.want {
			t.Errorf("GetInt(%q, %d): %d, %d, %d", c.text, c.at, n, next, err)
		}
		if got, next, err := bytes.GetBlob(b, c.at, -1); len(got) != 0 || next != 0 || err != c.want {
			t.Errorf("GetBlob(%q, %d): %q, %d, %d", c.text, c.at, got, next, err)
		}
	}
}

// P1.2: of all texts of up to three bytes, those that are the one form of a number are read, and no others.
func TestGetUintHasOneForm(t *testing.T) {
	digits := []byte{0, 1, 2, 127, 128, 129, 255}
	texts := [][]byte{nil}
	for i := 0; i < len(texts); i++ {
		b := texts[i]
		n, next, err := bytes.GetUint(b, 0)
		if err == api.OK && !slices.Equal(bytes.Uint(nil, n), b[:next]) {
			t.Errorf("GetUint(%v): %d, but that is put as %v", b, n, bytes.Uint(nil, n))
		}
		for _, x := range digits {
			if len(b) < 3 {
				texts = append(texts, append(slices.Clip(b), x))
			}
		}
	}
}

// P1.2: what a blob has, and the place behind it.
func TestGetBlobReads(t *testing.T) {
	for _, c := range []struct {
		text string
		at   int
		most int
		want string
		next int
	}{
		{"\x02abc", 0, 2, "ab", 3},
		{"\x02abc", 0, math.MaxInt, "ab", 3},
		{"\x02ab", 0, 2, "ab", 3},
		{"\x00", 0, 0, "", 1},
		{"xyz\x01q", 3, 9, "q", 5},
		{"\x82\x01" + strings.Repeat("z", 130) + "!", 0, 130, strings.Repeat("z", 130), 132},
	} {
		got, next, err := bytes.GetBlob([]byte(c.text), c.at, c.most)
		if string(got) != c.want || next != c.next || err != api.OK {
			t.Errorf("GetBlob(%q, %d, %d): %q, %d, %d", c.text, c.at, c.most, got, next, err)
		}
	}
}

// P1.2: each error of GetBlob's own, in the chapter's order, with nothing beside it.
func TestGetBlobErrors(t *testing.T) {
	huge := string(bytes.Uint(nil, math.MaxUint64))
	high := string(bytes.Uint(nil, 1<<63))
	for _, c := range []struct {
		text string
		most int
		want api.Errno
	}{
		{"\x02ab", 1, api.ErrLong},
		{"\x02ab", -1, api.ErrLong},
		{"\x00", -1, api.ErrLong},
		{"\x00", math.MinInt, api.ErrLong},
		{"\x05ab", 4, api.ErrLong},
		{huge, math.MaxInt, api.ErrLong},
		{high + "ab", math.MaxInt, api.ErrLong},
		{"\x05ab", 5, api.ErrShort},
		{"\x03ab", 3, api.ErrShort},
		{"\x01", 1, api.ErrShort},
		{string(bytes.Uint(nil, math.MaxInt64)) + "ab", math.MaxInt, api.ErrShort},
	} {
		if got, next, err := bytes.GetBlob([]byte(c.text), 0, c.most); len(got) != 0 || next != 0 || err != c.want {
			t.Errorf("GetBlob(%q, 0, %d): %q, %d, %d", c.text, c.most, got, next, err)
		}
	}
}

// P1.2, R3: a blob is got in memory of its own.
func TestGetBlobOwnsItsMemory(t *testing.T) {
	b := []byte("\x02abc")
	got, _, _ := bytes.GetBlob(b, 0, 2)
	_ = append(got, 'X')
	got[0] = 'Y'
	if string(b) != "\x02abc" {
		t.Errorf("handed in bytes became %q", b)
	}
}

// P1.4: what is put is got, one thing behind the other.
func TestWhatIsPutIsGot(t *testing.T) {
	var b []byte
	for i, n := range uints() {
		b = bytes.Blob(bytes.Int(bytes.Uint(b, n), -int64(n)), make([]byte, i))
	}
	at := 0
	for i, n := range uints() {
		u, next, err := bytes.GetUint(b, at)
		if u != n || err != api.OK {
			t.Fatalf("thing %d: %d, %d", i, u, err)
		}
		s, next, err := bytes.GetInt(b, next)
		if s != -int64(n) || err != api.OK {
			t.Fatalf("thing %d: %d, %d", i, s, err)
		}
		blob, next, err := bytes.GetBlob(b, next, i)
		if len(blob) != i || err != api.OK {
			t.Fatalf("thing %d: %v, %d", i, blob, err)
		}
		at = next
	}
	if at != len(b) {
		t.Errorf("ended at %d of %d", at, len(b))
	}
}

// P1.4: wherever bytes are cut off, the first thing that is not whole is ErrShort.
func TestCutOffIsShort(t *testing.T) {
	whole := bytes.Blob(bytes.Int(bytes.Uint(nil, math.MaxUint64), math.MinInt64), make([]byte, 200))
	for cut := range whole {
		at, err := readAll(whole[:cut])
		if err != api.ErrShort || at != 0 {
			t.Errorf("cut at %d: place %d, error %d", cut, at, err)
		}
	}
	if at, err := readAll(whole); at != len(whole) || err != api.OK {
		t.Errorf("whole: place %d, error %d", at, err)
	}
}

// readAll reads a number, a signed number and a blob, and tells how the last call that was needed ended.
func readAll(b []byte) (int, api.Errno) {
	_, at, err := bytes.GetUint(b, 0)
	if err == api.OK {
		_, at, err = bytes.GetInt(b, at)
	}
	if err == api.OK {
		_, at, err = bytes.GetBlob(b, at, 200)
	}
	return at, err
}

// P1.4: of two numbers the greater one has more bytes, or as many, and the last one that differs is greater.
func TestGreaterNumbersHaveGreaterBytes(t *testing.T) {
	rising := func(less, greater []byte) bool {
		for i := len(less) - 1; i >= 0 && len(less) == len(greater); i-- {
			if less[i] != greater[i] {
				return less[i] < greater[i]
			}
		}
		return len(less) < len(greater)
	}
	all := uints()
	for i, n := range all {
		for _, m := range all[:i] {
			if !rising(bytes.Uint(nil, m), bytes.Uint(nil, n)) {
				t.Errorf("%d and %d", m, n)
			}
		}
	}
}

// P1.4: n and -1 - n differ in the lowest bit of their first byte alone.
func TestMirroredNumbersDifferInOneBit(t *testing.T) {
	for _, n := range ints() {
		a, b := bytes.Int(nil, n), bytes.Int(nil, -1-n)
		a[0] ^= 1
		if !slices.Equal(a, b) {
			t.Errorf("%d: %v and %v", n, a, b)
		}
	}
}

// R1: no bytes make a call panic, and no error stands beside an answer.
func FuzzGets(f *testing.F) {
	f.Add([]byte("\x02abc"), 0, 2)
	f.Add([]byte("\x80\x80"), 1, -1)
	f.Add(bytes.Uint(nil, math.MaxUint64), 0, math.MaxInt)
	f.Fuzz(func(t *testing.T, b []byte, at, most int) {
		before := slices.Clone(b)
		u, next, err := bytes.GetUint(b, at)
		if err == api.OK && !slices.Equal(bytes.Uint(nil, u), b[at:next]) || err != api.OK && (u != 0 || next != 0) {
			t.Errorf("GetUint: %d, %d, %d", u, next, err)
		}
		s, next, err := bytes.GetInt(b, at)
		if err == api.OK && !slices.Equal(bytes.Int(nil, s), b[at:next]) || err != api.OK && (s != 0 || next != 0) {
			t.Errorf("GetInt: %d, %d, %d", s, next, err)
		}
		blob, next, err := bytes.GetBlob(b, at, most)
		if err == api.OK && !slices.Equal(bytes.Blob(nil, blob), b[at:next]) || err != api.OK && (len(blob) != 0 || next != 0) {
			t.Errorf("GetBlob: %v, %d, %d", blob, next, err)
		}
		if body, err := bytes.Unseal(b); err == api.OK && !slices.Equal(bytes.Seal(body), b) || err != api.OK && len(body) != 0 {
			t.Errorf("Unseal: %v, %d", body, err)
		}
		if !slices.Equal(b, before) {
			t.Errorf("handed in bytes became %v", b)
		}
	})
}
