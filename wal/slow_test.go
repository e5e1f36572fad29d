package wal_test

import (
	"encoding/binary"
	"slices"
	"strconv"
	"strings"
	"testing"

	"homestead/api"
	"homestead/disk"
	"homestead/wal"
)

// slowRecords are a file's records by the chapter's words: each may be any piece of what is left whose frame that piece is.
func slowRecords(whole string, n int) (texts []string, behind string) {
	for behind = whole[len(head(n)):]; ; n++ {
		text, is := slowFrame(behind, n)
		if !is {
			return texts, behind
		}
		texts = append(texts, text)
		behind = behind[len(frame(n, text)):]
	}
}

// slowFrame looks for a text whose frame as the record n stands at the begin of some bytes.
func slowFrame(b string, n int) (string, bool) {
	size, bytes := binary.Uvarint([]byte(b))
	from := bytes + len(varint(n))
	to := bytes + int(min(size, 1<<30))
	if bytes <= 0 || to < from || to > len(b) || !strings.HasPrefix(b, frame(n, b[from:to])) {
		return "", false
	}
	return b[from:to], true
}

// slowLog follows the chapter's words one by one, on a disk of its own.
type slowLog struct {
	disk     *disk.Disk
	size     int
	segments []int
	last     []int // perhaps the number ahead of the next one
	bytes    int
	synced   int
	over     bool
}

// slowSegments are the numbers of a disk's segments, rising.
func slowSegments(d *disk.Disk) []int {
	var numbers []int
	for _, name := range d.List() {
		digits := strings.TrimPrefix(name, "w")
		if digits == name || digits == "" || digits[0] == '0' || strings.Trim(digits, "0123456789") != "" || len(digits) > 16 {
			continue
		}
		if n, _ := strconv.Atoi(digits); n <= maxNumber {
			numbers = append(numbers, n)
		}
	}
	slices.Sort(numbers)
	return numbers
}

func slowName(n int) string { return "w" + strconv.Itoa(n) }

// slowOpen answers a log and its records' texts, the first one's number being that of the first segment.
func slowOpen(d *disk.Disk, size int) (*slowLog, []string, api.Errno) {
	if size < 64 || size > 1<<24 {
		return nil, nil, api.ErrArg
	}
	if d.Down() {
		return nil, nil, api.ErrDown
	}
	l := &slowLog{disk: d, size: size, segments: slowSegments(d)}
	bytes := map[int]string{}
	for _, n := range l.segments {
		b, _ := d.Read(slowName(n))
		bytes[n] = string(b)
	}
	lastFile, torn := 0, false
	if count := len(l.segments); count > 0 {
		lastFile = l.segments[count-1]
		if torn = !strings.HasPrefix(bytes[lastFile], head(lastFile)); torn {
			l.segments = l.segments[:count-1]
		}
	}
	var texts []string
	behind := ""
	for i, n := range l.segments {
		if !strings.HasPrefix(bytes[n], head(n)) || i > 0 && n != l.last[0]+1 {
			return nil, nil, api.ErrLog
		}
		var more []string
		more, behind = slowRecords(bytes[n], n)
		if n != lastFile && (len(more) == 0 || behind != "") {
			return nil, nil, api.ErrLog
		}
		texts = append(texts, more...)
		l.last = []int{l.segments[0] + len(texts) - 1}
		l.synced = l.last[0]
		l.bytes = len(bytes[n]) - len(behind)
	}
	var errs []api.Errno
	if torn {
		errs = append(errs, d.Remove(slowName(lastFile)))
	}
	if behind != "" {
		errs = append(errs, d.Cut(slowName(lastFile), l.bytes))
	}
	if count := len(l.segments); count > 0 {
		errs = append(errs, d.Sync(slowName(l.segments[count-1])))
	}
	for _, err := range errs {
		if err != api.OK {
			return nil, nil, err
		}
	}
	return l, texts, api.OK
}

func (l *slowLog) append(n int, b string) api.Errno {
	count := len(l.segments)
	switch {
	case l.over:
		return api.ErrEnded
	case n < 1 || n > maxNumber:
		return api.ErrArg
	case len(b) > 1<<20:
		return api.ErrLong
	case len(l.last) > 0 && n != l.last[0]+1:
		return api.ErrSeq
	}
	if count == 0 || l.last[0] >= l.segments[count-1] && l.bytes >= l.size {
		if err := l.begin(n); err != api.OK {
			l.over = true
			return err
		}
	}
	if err := l.disk.Append(slowName(l.segments[len(l.segments)-1]), []byte(frame(n, b))); err != api.OK {
		l.over = true
		return err
	}
	l.bytes += len(frame(n, b))
	l.last = []int{n}
	return api.OK
}

func (l *slowLog) begin(n int) api.Errno {
	if count := len(l.segments); count > 0 {
		if err := l.disk.Sync(slowName(l.segments[count-1])); err != api.OK {
			return err
		}
		l.synced = l.last[0]
	}
	if slices.Contains(l.disk.List(), slowName(n)) {
		if err := l.disk.Remove(slowName(n)); err != api.OK {
			return err
		}
	}
	if err := l.disk.Append(slowName(n), []byte(head(n))); err != api.OK {
		return err
	}
	if err := l.disk.Sync(slowName(n)); err != api.OK {
		return err
	}
	if len(l.segments) == 0 {
		l.last, l.synced = []int{n - 1}, n-1
	}
	l.segments = append(l.segments, n)
	l.bytes = len(head(n))
	return api.OK
}

func (l *slowLog) sync() api.Errno {
	if l.over {
		return api.ErrEnded
	}
	if count := len(l.segments); count > 0 {
		if err := l.disk.Sync(slowName(l.segments[count-1])); err != api.OK {
			l.over = true
			return err
		}
		l.synced = l.last[0]
	}
	return api.OK
}

func (l *slowLog) trim(below int) (names []string, err api.Errno) {
	if l.over {
		return nil, api.ErrEnded
	}
	for slices.ContainsFunc(l.segments[min(1, len(l.segments)):], func(n int) bool { return n <= below }) {
		name := slowName(l.segments[0])
		if err := l.disk.Remove(name); err != api.OK {
			l.over = true
			return names, err
		}
		names = append(names, name)
		l.segments = l.segments[1:]
	}
	return names, api.OK
}

// looks is what a slow log tells of itself.
func (l *slowLog) looks() string {
	if l == nil {
		return told(0, 0, 0, false, nil)
	}
	first, last := 0, 0
	var names []string
	for _, n := range l.segments {
		first = l.segments[0]
		names = append(names, slowName(n))
	}
	if len(l.last) > 0 {
		last = l.last[0]
	}
	return told(first, last, l.synced, l.over, names)
}

// looks is what a log tells of itself.
func looks(l *wal.Log) string {
	return told(l.First(), l.Last(), l.Synced(), l.Over(), l.Files())
}

func told(first, last, synced int, over bool, names []string) string {
	return "First " + strconv.Itoa(first) + ", Last " + strconv.Itoa(last) + ", Synced " + strconv.Itoa(synced) +
		", Over " + strconv.FormatBool(over) + ", Files " + strings.Join(names, " ")
}

// lies is all that stands on a disk, be it down or not.
func lies(d *disk.Disk) string {
	var all []string
	for _, name := range d.List() {
		b, _ := d.Read(name)
		all = append(all, name, strconv.Itoa(d.Size(name)), strconv.Itoa(d.Synced(name)), string(b))
	}
	return strings.Join(append(all, strconv.FormatBool(d.Down())), " ")
}

// reader takes a script's bytes one by one; behind its end there are noughts.
type reader struct{ rest string }

func (r *reader) next() int {
	if r.rest == "" {
		return 0
	}
	x := r.rest[0]
	r.rest = r.rest[1:]
	return int(x)
}

// pair is a log and a slow one, each on its disk, to which the same is done.
type pair struct {
	d, e *disk.Disk
	l    *wal.Log
	s    *slowLog
}

// number is one for the next record, most often the right one.
func (p *pair) number(r *reader) int {
	if p.s == nil || len(p.s.last) == 0 {
		return []int{1, 9, 95, 127, 1 << 20, maxNumber - 3}[r.next()%6]
	}
	if right := p.s.last[0] + 1; r.next()%8 > 0 {
		return right
	}
	return []int{0, 1, p.s.last[0], p.s.last[0] + 2, maxNumber, maxNumber + 1}[r.next()%6]
}

// openBoth opens both journals.
func (p *pair) openBoth(t *testing.T, size int) {
	t.Helper()
	l, got, err := wal.Open(p.d, size)
	s, texts, wanted := slowOpen(p.e, size)
	if err != wanted || (l == nil) != (s == nil) {
		t.Fatalf("Open: %v, %d; not %d", l, err, wanted)
	}
	if s != nil && len(s.segments) > 0 {
		records(t, got, s.segments[0], texts...)
	} else if len(got) > 0 {
		t.Fatalf("Open: %v", got)
	}
	p.l, p.s = l, s
}

// meddle does something to both disks behind the logs' backs.
func (p *pair) meddle(r *reader) {
	name, other := "w", "w"
	if numbers := slowSegments(p.d); len(numbers) > 0 {
		name = slowName(numbers[r.next()%len(numbers)])
		other = slowName(numbers[len(numbers)-1] + r.next()%3)
	}
	text := []string{"", "x", "\x80", head(95), frame(96, "?"), segment(9, "1", "2")}[r.next()%6]
	n := r.next()
	what := r.next() % 8
	for _, d := range []*disk.Disk{p.d, p.e} {
		switch what {
		case 0, 1, 2:
			d.Append(name, []byte(text))
		case 3:
			d.Append(other, []byte(text))
		case 4:
			d.Remove(name)
		case 5:
			d.Rename(name, other)
		default:
			d.Cut(name, n)
		}
	}
}

// crash has both disks crash, each file keeping some loose bytes.
func (p *pair) crash(r *reader) {
	keeps := make([]int, len(p.d.List()))
	for i := range keeps {
		keeps[i] = r.next()%100 - 1
	}
	p.d.Crash(keeps)
	p.e.Crash(keeps)
}

// use has both logs do one thing, and answers what they told, the two of them to be the same.
func (p *pair) use(r *reader) (got, wanted string) {
	switch r.next() % 8 {
	case 0:
		below := p.s.synced + r.next()%20 - 12
		names, err := p.l.Trim(below)
		others, why := p.s.trim(below)
		return strings.Join(names, " ") + strconv.Itoa(int(err)), strings.Join(others, " ") + strconv.Itoa(int(why))
	case 1, 2:
		return strconv.Itoa(int(p.l.Sync())), strconv.Itoa(int(p.s.sync()))
	}
	n, text := p.number(r), strings.Repeat(string([]byte{byte(r.next())}), r.next()%80)
	return strconv.Itoa(int(p.l.Append(n, []byte(text)))), strconv.Itoa(int(p.s.append(n, text)))
}

// anew opens both journals on disks without files.
func (p *pair) anew(t *testing.T) {
	t.Helper()
	for _, d := range []*disk.Disk{p.d, p.e} {
		d.Crash(nil)
		for _, name := range d.List() {
			want(t, "Remove "+name, d.Remove(name), api.OK)
		}
	}
	p.openBoth(t, 64)
}

// turn does one thing to both, and answers what they told, the two of them to be the same.
func (p *pair) turn(t *testing.T, r *reader) (got, wanted string) {
	t.Helper()
	switch r.next() % 24 {
	case 0:
		n := r.next() % 24
		p.d.Arm(n)
		p.e.Arm(n)
	case 1:
		p.crash(r)
		p.openBoth(t, 64+r.next())
	case 2:
		p.openBoth(t, 60+r.next())
	case 3:
		p.meddle(r)
	case 4:
		p.meddle(r)
		p.crash(r)
		p.openBoth(t, 64+r.next())
	default:
		if p.s == nil {
			p.anew(t)
		}
		return p.use(r)
	}
	return "", ""
}

// checkScript follows a script's bytes with a log and a slow one.
func checkScript(t *testing.T, script string) {
	t.Helper()
	r := &reader{script}
	most := 100 + 16*r.next()
	p := &pair{d: room(t, most), e: room(t, most)}
	p.openBoth(t, 64)
	for i := 0; r.rest != ""; i++ {
		got, wanted := p.turn(t, r)
		if got != wanted || looks(p.l) != p.s.looks() || lies(p.d) != lies(p.e) || t.Failed() {
			t.Fatalf("turn %d of %q: %s, %s\n%q\nnot %s, %s\n%q", i, script, got, looks(p.l), lies(p.d), wanted, p.s.looks(), lies(p.e))
		}
	}
}

// noise is n bytes that look like none in particular, others for each number.
func noise(number, n int) string {
	b := make([]byte, n)
	state := uint32(number)*2654435761 + 1
	for i := range b {
		state = state*1664525 + 1013904223
		b[i] = byte(state >> 24)
	}
	return string(b)
}

// P4.1 to P4.4: whatever is called, in whatever order, all goes as the chapter's words say.
func TestAsTheWordsSay(t *testing.T) {
	for number := range 1000 {
		checkScript(t, noise(number, 400))
	}
}

// FuzzWal looks for calls that do not go as the chapter's words say.
func FuzzWal(f *testing.F) {
	for number := range 20 {
		f.Add(noise(number, 40*number))
	}
	f.Fuzz(func(t *testing.T, script string) { checkScript(t, script) })
}
