package pages_test

import (
	"encoding/binary"
	"maps"
	"slices"
	"strconv"
	"strings"
	"testing"

	"homestead/api"
	"homestead/disk"
	"homestead/pages"
)

// slowBlob is a commit's key: where its blob stands, and its text.
type slowBlob struct {
	spot
	text string
}

// slowStore follows the chapter's words one by one, on a disk of its own.
type slowStore struct {
	disk    *disk.Disk
	number  int
	commit  []slowBlob // by rising keys
	put     map[string]string
	dropped map[string]int
	over    bool
}

// slowNumber is the number of a name behind its first letter, 0 if it has none.
func slowNumber(name string) int {
	digits := name[min(1, len(name)):]
	if digits == "" || digits[0] == '0' || strings.Trim(digits, "0123456789") != "" || len(digits) > 16 {
		return 0
	}
	n, _ := strconv.Atoi(digits)
	if n > maxNumber {
		return 0
	}
	return n
}

// slowSpots looks for the keys whose index some bytes are: it takes them as they come, and then asks whether the index of these is that.
func slowSpots(b string, number int) ([]spot, bool) {
	rest := strings.TrimPrefix(b, "HSI1")
	next := func() int {
		n, bytes := binary.Uvarint([]byte(rest))
		rest = rest[max(bytes, 0):]
		return int(min(n, 1<<60))
	}
	next()
	count := next()
	var spots []spot
	for len(spots) < min(count, api.MaxKeys) {
		size := min(next(), len(rest))
		key := rest[:size]
		rest = rest[size:]
		spots = append(spots, spot{key, next(), next(), next()})
	}
	rises := slices.IsSortedFunc(spots, func(a, b spot) int {
		if a.key < b.key {
			return -1
		}
		return 1
	})
	for _, s := range spots {
		if s.key == "" || len(s.key) > 60 || s.pack < 1 || s.pack > number || s.size > 1<<20 {
			return nil, false
		}
	}
	return spots, rises && len(spots) == count && index(number, spots...) == b
}

// slowCommit are the keys of the commit of a number, if a disk has it.
func slowCommit(d *disk.Disk, number int) ([]slowBlob, bool) {
	if number == 0 {
		return nil, true
	}
	b, err := d.Read("i" + strconv.Itoa(number))
	if err != api.OK {
		return nil, false
	}
	spots, is := slowSpots(string(b), number)
	if !is {
		return nil, false
	}
	var commit []slowBlob
	for _, s := range spots {
		pack, err := d.Read("c" + strconv.Itoa(s.pack))
		if err != api.OK || s.place > len(pack) || s.size > len(pack)-s.place {
			return nil, false
		}
		commit = append(commit, slowBlob{s, string(pack[s.place:][:s.size])})
	}
	return commit, true
}

func slowOpen(d *disk.Disk, number int) (*slowStore, api.Errno) {
	if number < 0 || number > maxNumber {
		return nil, api.ErrArg
	}
	if d.Down() {
		return nil, api.ErrDown
	}
	commit, is := slowCommit(d, number)
	if !is {
		return nil, api.ErrLog
	}
	s := &slowStore{disk: d, number: number, commit: commit, put: map[string]string{}, dropped: map[string]int{}}
	if _, err := s.removeOthers(); err != api.OK {
		return nil, err
	}
	return s, api.OK
}

// isOther tells whether a file is one of other commits.
func (s *slowStore) isOther(name string) bool {
	if name == "i.new" {
		return true
	}
	n := slowNumber(name)
	if n == 0 {
		return false
	}
	named := slices.ContainsFunc(s.commit, func(b slowBlob) bool { return b.pack == n })
	return name[0] == 'i' && n != s.number || name[0] == 'c' && !named
}

func (s *slowStore) removeOthers() (names []string, err api.Errno) {
	for _, name := range s.disk.List() {
		if !s.isOther(name) {
			continue
		}
		if err := s.disk.Remove(name); err != api.OK {
			return names, err
		}
		names = append(names, name)
	}
	return names, api.OK
}

// get is what was put last and not dropped since, else the commit's.
func (s *slowStore) get(key string) (string, bool) {
	if text, there := s.put[key]; there {
		return text, true
	}
	if _, gone := s.dropped[key]; gone {
		return "", false
	}
	for _, b := range s.commit {
		if b.key == key {
			return b.text, true
		}
	}
	return "", false
}

func (s *slowStore) keys() []string {
	keys := slices.Collect(maps.Keys(s.put))
	for _, b := range s.commit {
		_, there := s.get(b.key)
		if there && !slices.Contains(keys, b.key) {
			keys = append(keys, b.key)
		}
	}
	slices.Sort(keys)
	return keys
}

func (s *slowStore) putKey(key, text string) api.Errno {
	keys := s.keys()
	switch {
	case s.over:
		return api.ErrEnded
	case len(key) < 1 || len(key) > 60:
		return api.ErrArg
	case len(text) > 1<<20:
		return api.ErrLong
	case !slices.Contains(keys, key) && len(keys) == 4096:
		return api.ErrFull
	}
	s.put[key] = text
	delete(s.dropped, key)
	return api.OK
}

func (s *slowStore) drop(key string) api.Errno {
	switch {
	case s.over:
		return api.ErrEnded
	case len(key) < 1 || len(key) > 60:
		return api.ErrArg
	}
	delete(s.put, key)
	s.dropped[key]++
	return api.OK
}

// others are the keys that are there and were not put, and how many packs they name.
func (s *slowStore) others() ([]slowBlob, int) {
	var others []slowBlob
	packs := map[int]int{}
	for _, b := range s.commit {
		_, isPut := s.put[b.key]
		if _, there := s.get(b.key); there && !isPut {
			others = append(others, b)
			packs[b.pack]++
		}
	}
	return others, len(packs)
}

// next are the keys of the commit that comes next, and its pack, if there is one.
func (s *slowStore) next() (commit []slowBlob, pack string, hasPack bool) {
	others, packs := s.others()
	hasPack = len(s.put) > 0 || packs > 15
	for _, key := range s.keys() {
		text, _ := s.get(key)
		at := slices.IndexFunc(others, func(b slowBlob) bool { return b.key == key })
		if at >= 0 && packs <= 15 {
			commit = append(commit, others[at])
			continue
		}
		commit = append(commit, slowBlob{spot{key, s.number + 1, len(pack), len(text)}, text})
		pack += text
	}
	return commit, pack, hasPack
}

// write has a file of that name have these bytes alone, and be synced.
func (s *slowStore) write(name, text string) api.Errno {
	if slices.Contains(s.disk.List(), name) {
		if err := s.disk.Remove(name); err != api.OK {
			return err
		}
	}
	if err := s.disk.Append(name, []byte(text)); err != api.OK {
		return err
	}
	return s.disk.Sync(name)
}

func (s *slowStore) commitAll() (int, api.Errno) {
	if s.over {
		return 0, api.ErrEnded
	}
	if s.number == maxNumber {
		return 0, api.ErrArg
	}
	k := s.number + 1
	commit, pack, hasPack := s.next()
	var spots []spot
	for _, b := range commit {
		spots = append(spots, b.spot)
	}
	err := api.OK
	if hasPack {
		err = s.write("c"+strconv.Itoa(k), pack)
	}
	if err == api.OK {
		err = s.write("i.new", index(k, spots...))
	}
	if err == api.OK {
		err = s.disk.Rename("i.new", "i"+strconv.Itoa(k))
	}
	if err != api.OK {
		s.over = true
		return 0, err
	}
	s.number, s.commit = k, commit
	clear(s.put)
	clear(s.dropped)
	return k, api.OK
}

func (s *slowStore) free() ([]string, api.Errno) {
	if s.over {
		return nil, api.ErrEnded
	}
	names, err := s.removeOthers()
	s.over = err != api.OK
	return names, err
}

// looks is what a slow store tells of itself.
func (s *slowStore) looks() string {
	if s == nil {
		return told(0, false, nil, nil)
	}
	var texts []string
	for _, key := range s.keys() {
		text, _ := s.get(key)
		texts = append(texts, text)
	}
	return told(s.number, s.over, s.keys(), texts)
}

// looks is what a store tells of itself.
func looks(s *pages.Store) string {
	var texts []string
	for _, key := range s.Keys() {
		b, there := s.Get(key)
		if !there {
			texts = append(texts, "none")
		}
		texts = append(texts, string(b))
	}
	return told(s.Number(), s.Over(), s.Keys(), texts)
}

func told(number int, over bool, keys, texts []string) string {
	return "Number " + strconv.Itoa(number) + ", Over " + strconv.FormatBool(over) + ", Keys " + strings.Join(keys, " ") + ", blobs " + strings.Join(texts, " ")
}

// stands is all that a disk has, be it down or not.
func stands(d *disk.Disk) string {
	var all []string
	for _, name := range d.List() {
		b, _ := d.Read(name)
		all = append(all, name, strconv.Itoa(d.Size(name)), strconv.Itoa(d.Synced(name)), string(b))
	}
	return strings.Join(append(all, strconv.FormatBool(d.Down())), " ")
}

// reader takes a script's bytes one by one; behind its end there are noughts.
type reader struct{ rest string }

func (r *reader) next() int {
	if r.rest == "" {
		return 0
	}
	x := r.rest[0]
	r.rest = r.rest[1:]
	return int(x)
}

// text takes one.
func (r *reader) text() string {
	return strings.Repeat(string([]byte{byte(r.next())}), r.next()%20)
}

// key takes one, most often a right one.
func (r *reader) key() string {
	switch n := r.next(); n {
	case 0:
		return ""
	case 1:
		return strings.Repeat("k", 60+r.next()%2)
	case 2:
		return string([]byte{byte(r.next())})
	default:
		return "k" + strconv.Itoa(n%28)
	}
}

// pair is a store and a slow one, each on its disk, to which the same is done.
type pair struct {
	d, e *disk.Disk
	s    *pages.Store
	o    *slowStore
}

// openBoth opens both stores' commits of a number.
func (p *pair) openBoth(t *testing.T, number int) {
	t.Helper()
	s, err := pages.Open(p.d, number)
	o, wanted := slowOpen(p.e, number)
	if err != wanted || (s == nil) != (o == nil) {
		t.Fatalf("Open of %d: %v, %d; not %d", number, s, err, wanted)
	}
	p.s, p.o = s, o
}

// some is the number of a commit that is there, or another one.
func (p *pair) some(r *reader) int {
	numbers := []int{0, 1, -1}
	for _, name := range p.d.List() {
		if n := slowNumber(name); n > 0 && name[0] == 'i' {
			numbers = append(numbers, n, n, n, n)
		}
	}
	return numbers[r.next()%len(numbers)]
}

// meddle does something to both disks behind the stores' backs.
func (p *pair) meddle(r *reader) {
	number := 0
	if p.o != nil {
		number = p.o.number
	}
	names := append(p.d.List(), "i.new", "i", "c", "c0", "i"+strconv.Itoa(number+1), "c"+strconv.Itoa(number+1), "i"+strconv.Itoa(number+2))
	name, other := names[r.next()%len(names)], names[r.next()%len(names)]
	text := []string{"", "x", "\x80", index(number + 1), index(number+2, spot{"k5", 1 + r.next()%3, r.next() % 4, r.next() % 8})}[r.next()%5]
	n := r.next()
	what := r.next() % 6
	for _, d := range []*disk.Disk{p.d, p.e} {
		switch what {
		case 0, 1, 2:
			d.Append(name, []byte(text))
		case 3:
			d.Remove(name)
		case 4:
			d.Rename(name, other)
		default:
			d.Cut(name, n)
		}
	}
}

// crash has both disks crash, each file keeping some loose bytes.
func (p *pair) crash(r *reader) {
	keeps := make([]int, len(p.d.List()))
	for i := range keeps {
		keeps[i] = r.next()%100 - 1
	}
	p.d.Crash(keeps)
	p.e.Crash(keeps)
}

// use has both stores do one thing, and answers what they told, the two of them to be the same.
func (p *pair) use(r *reader) (got, wanted string) {
	switch r.next() % 12 {
	case 0:
		names, err := p.s.Free()
		others, why := p.o.free()
		return strings.Join(names, " ") + strconv.Itoa(int(err)), strings.Join(others, " ") + strconv.Itoa(int(why))
	case 1, 2, 3, 4:
		number, err := p.s.Commit()
		other, why := p.o.commitAll()
		return strconv.Itoa(number) + " " + strconv.Itoa(int(err)), strconv.Itoa(other) + " " + strconv.Itoa(int(why))
	case 5, 6:
		key := r.key()
		return strconv.Itoa(int(p.s.Drop(key))), strconv.Itoa(int(p.o.drop(key)))
	}
	key, text := r.key(), r.text()
	return strconv.Itoa(int(p.s.Put(key, []byte(text)))), strconv.Itoa(int(p.o.putKey(key, text)))
}

// anew opens stores of no commit on both disks, which get their power back.
func (p *pair) anew(t *testing.T) {
	t.Helper()
	p.d.Crash(nil)
	p.e.Crash(nil)
	p.openBoth(t, 0)
}

// turn does one thing to both, and answers what they told, the two of them to be the same.
func (p *pair) turn(t *testing.T, r *reader) (got, wanted string) {
	t.Helper()
	switch r.next() % 40 {
	case 0:
		n := r.next() % 24
		p.d.Arm(n)
		p.e.Arm(n)
	case 1:
		p.crash(r)
		p.openBoth(t, p.some(r))
	case 2:
		p.openBoth(t, p.some(r))
	case 3:
		p.meddle(r)
	case 4:
		p.meddle(r)
		p.crash(r)
		p.openBoth(t, p.some(r))
	default:
		if p.o == nil || p.o.over && r.next()%3 == 0 {
			p.anew(t)
		}
		return p.use(r)
	}
	return "", ""
}

// beginAt opens, by a number, stores of no commit, of one that is far on, or of one that rests on about sixteen packs.
func (p *pair) beginAt(t *testing.T, n int) {
	t.Helper()
	number, stands := 0, files{}
	switch n % 4 {
	case 0:
		number = maxNumber - n/4%4
		stands["i"+strconv.Itoa(number)] = index(number)
	case 1:
		number = 13 + n/4%6
		stands = spreadFiles(number)
	}
	for name, text := range stands {
		for _, d := range []*disk.Disk{p.d, p.e} {
			want(t, "Append", d.Append(name, []byte(text)), api.OK)
		}
	}
	p.openBoth(t, number)
}

// checkScript follows a script's bytes with a store and a slow one.
func checkScript(t *testing.T, script string) {
	t.Helper()
	r := &reader{script}
	most := 150 + 32*r.next()
	p := &pair{d: room(t, most), e: room(t, most)}
	p.beginAt(t, r.next())
	for i := 0; r.rest != ""; i++ {
		got, wanted := p.turn(t, r)
		if got != wanted || looks(p.s) != p.o.looks() || stands(p.d) != stands(p.e) || t.Failed() {
			t.Fatalf("turn %d of %q: %s, %s\n%q\nnot %s, %s\n%q", i, script, got, looks(p.s), stands(p.d), wanted, p.o.looks(), stands(p.e))
		}
	}
}

// noise is n bytes that look like none in particular, others for each number.
func noise(number, n int) string {
	b := make([]byte, n)
	state := uint32(number)*2654435761 + 1
	for i := range b {
		state = state*1664525 + 1013904223
		b[i] = byte(state >> 24)
	}
	return string(b)
}

// P5.1 to P5.5: whatever is called, in whatever order, all goes as the chapter's words say.
func TestAsTheWordsSay(t *testing.T) {
	for number := range 1000 {
		checkScript(t, noise(number, 600))
	}
}

// FuzzPages looks for calls that do not go as the chapter's words say.
func FuzzPages(f *testing.F) {
	for number := range 20 {
		f.Add(noise(number, 40*number))
	}
	f.Fuzz(func(t *testing.T, script string) { checkScript(t, script) })
}

// FuzzIndex looks for bytes, sealed, that are taken for an index though they are none, or the other way round.
func FuzzIndex(f *testing.F) {
	f.Add(bare(7), 7)
	f.Add(bare(7, spot{"a", 6, 1, 2}), 7)
	f.Add(bare(300, spot{"a", 6, 1, 2}, spot{"bc", 200, 0, 0}), 300)
	f.Fuzz(func(t *testing.T, text string, number int) {
		if number < 1 || number > maxNumber {
			return
		}
		p := &pair{}
		for _, d := range []**disk.Disk{&p.d, &p.e} {
			*d = lay(t, files{"i" + strconv.Itoa(number): sealed(text), "c1": "", "c6": "xyz", "c7": strings.Repeat("x", 300)})
		}
		p.openBoth(t, number)
		if looks(p.s) != p.o.looks() || stands(p.d) != stands(p.e) {
			t.Errorf("%q, %d: %s, not %s", text, number, looks(p.s), p.o.looks())
		}
	})
}
