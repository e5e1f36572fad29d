package net_test

import (
	"testing"

	"homestead/api"
	"homestead/net"
)

// slowNet follows the chapter's words one by one.
type slowNet struct {
	nodes int
	row   []api.Gram
}

func (s *slowNet) isNode(node int) bool {
	for is := range s.nodes {
		if is == node {
			return true
		}
	}
	return false
}

func (s *slowNet) send(from, to int, data []byte) api.Errno {
	switch {
	case !s.isNode(from), !s.isNode(to):
		return api.ErrArg
	case len(data) > 1048576:
		return api.ErrLong
	case len(s.row) == 4096:
		return api.ErrFull
	}
	s.row = append(s.row, api.Gram{From: from, To: to, Data: data})
	return api.OK
}

func (s *slowNet) copy(i int) api.Errno {
	g, there := s.look(i)
	if !there {
		return api.ErrArg
	}
	return s.send(g.From, g.To, g.Data)
}

func (s *slowNet) look(i int) (api.Gram, bool) {
	for place, g := range s.row {
		if place == i {
			return g, true
		}
	}
	return api.Gram{}, false
}

func (s *slowNet) take(i int) (api.Gram, bool) {
	g, there := s.look(i)
	var left []api.Gram
	for place, other := range s.row {
		if place != i {
			left = append(left, other)
		}
	}
	s.row = left
	return g, there
}

func (s *slowNet) forget(node int) int {
	var left []api.Gram
	for _, g := range s.row {
		if g.To != node {
			left = append(left, g)
		}
	}
	forgotten := len(s.row) - len(left)
	s.row = left
	return forgotten
}

// reader takes a script's bytes one by one; behind its end there are noughts.
type reader struct{ rest string }

func (r *reader) next() int {
	if r.rest == "" {
		return 0
	}
	x := r.rest[0]
	r.rest = r.rest[1:]
	return int(x)
}

// node is a node of a net of so many, or a number right beside those.
func (r *reader) node(nodes int) int {
	return r.next()%(nodes+2) - 1
}

// place is one of a row of so many, or a number right beside those.
func (r *reader) place(flying int) int {
	return (r.next()+256*r.next())%(flying+2) - 1
}

// bytes are some, few mostly; now and then they are about MaxGram.
func (r *reader) bytes() []byte {
	length := r.next()
	if length == 255 {
		length = api.MaxGram - 1 + r.next()%3
	} else {
		length %= 5
	}
	b := make([]byte, length)
	for i := range min(length, 5) {
		b[i] = byte(r.next())
	}
	return b
}

// told is what a call told, of whatever kind.
type told struct {
	err   api.Errno
	is    bool
	count int
	gram  string
}

// deed does one call to both nets, and answers what they told, the two of them to be the same.
func (r *reader) deed(n *net.Net, s *slowNet) (what string, got, wanted told) {
	switch what = []string{"send", "send", "send", "copy", "look", "take", "drop", "forget"}[r.next()%8]; what {
	case "send":
		from, to, b := r.node(s.nodes), r.node(s.nodes), r.bytes()
		return what, told{err: n.Send(from, to, b)}, told{err: s.send(from, to, b)}
	case "copy":
		i := r.place(len(s.row))
		return what, told{err: n.Copy(i)}, told{err: s.copy(i)}
	case "look", "take":
		call, slow := n.Look, s.look
		if what == "take" {
			call, slow = n.Take, s.take
		}
		i := r.place(len(s.row))
		g, is := call(i)
		h, should := slow(i)
		return what, told{is: is, gram: show(g), count: len(g.Data)}, told{is: should, gram: show(h), count: len(h.Data)}
	case "drop":
		i := r.place(len(s.row))
		_, should := s.take(i)
		return what, told{is: n.Drop(i)}, told{is: should}
	default:
		node := r.node(s.nodes)
		return what, told{count: n.Forget(node)}, told{count: s.forget(node)}
	}
}

// sameNets complains unless n has the row that s has.
func sameNets(t *testing.T, n *net.Net, s *slowNet) {
	t.Helper()
	if n.Flying() != len(s.row) {
		t.Fatalf("Flying %d, not %d", n.Flying(), len(s.row))
	}
	for i, wanted := range s.row {
		g, there := n.Look(i)
		if !there || g.From != wanted.From || g.To != wanted.To || string(g.Data) != string(wanted.Data) {
			t.Fatalf("Look(%d): %q, %t; not %q", i, show(g), there, show(wanted))
		}
	}
}

// checkScript follows a script's bytes on a net and on a slow one, which have so many datagrams on their way at first.
func checkScript(t *testing.T, script string, flying int) {
	t.Helper()
	r := &reader{script}
	s := &slowNet{nodes: 1 + r.next()%6}
	n := made(t, s.nodes)
	for i := range flying {
		b := []byte{byte(i), byte(i >> 8)}
		send(t, n, i%s.nodes, i*i%s.nodes, string(b))
		s.send(i%s.nodes, i*i%s.nodes, b)
	}
	for i := 0; r.rest != ""; i++ {
		what, got, wanted := r.deed(n, s)
		if got != wanted {
			t.Fatalf("call %d of %q, %s: %v, not %v", i, script, what, got, wanted)
		}
		sameNets(t, n, s)
		if t.Failed() {
			t.Fatalf("call %d of %q, %s", i, script, what)
		}
	}
}

// noise is n bytes that look like none in particular, others for each number.
func noise(number, n int) string {
	b := make([]byte, n)
	state := uint32(number)*2654435761 + 1
	for i := range b {
		state = state*1664525 + 1013904223
		b[i] = byte(state >> 24)
	}
	return string(b)
}

// P7.1 to P7.4: whatever is called, in whatever order, all goes as the chapter's words say.
func TestAsTheWordsSay(t *testing.T) {
	for number := range 1000 {
		checkScript(t, noise(number, 400), 0)
	}
}

// P7.1 to P7.4: likewise of a row that is full, or nearly so, at first.
func TestAsTheWordsSayOfAFullRow(t *testing.T) {
	for number := range 100 {
		checkScript(t, noise(number, 80), api.MaxFlying-number%3)
	}
}

// FuzzNet looks for calls that do not go as the chapter's words say.
func FuzzNet(f *testing.F) {
	for number := range 20 {
		f.Add(noise(number, 40*number), 0)
		f.Add(noise(number, 40), api.MaxFlying-number%3)
	}
	f.Fuzz(func(t *testing.T, script string, flying int) {
		if flying < 0 || flying > api.MaxFlying {
			return
		}
		checkScript(t, script, flying)
	})
}
