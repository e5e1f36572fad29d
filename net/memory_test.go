package net_test

import (
	"math"
	"runtime"
	"strings"
	"testing"

	"homestead/api"
	"homestead/net"
)

// noNets are nets that New did not make.
func noNets(t *testing.T) map[string]*net.Net {
	t.Helper()
	first := letters(t, "abc")
	copied := *first
	emptied := letters(t, "abc")
	*emptied = net.Net{}
	other := letters(t, "abc")
	*other = *first
	return map[string]*net.Net{"nil": nil, "of zeros": {}, "copied": &copied, "emptied": emptied, "overwritten": other}
}

// R5: no net answers zeros, and ErrNil ahead of every other error.
func TestNoNet(t *testing.T) {
	for what, n := range noNets(t) {
		want(t, what+": Send", n.Send(0, 1, []byte("x")), api.ErrNil)
		want(t, what+": Send, a node", n.Send(-1, 64, nil), api.ErrNil)
		want(t, what+": Send, long", n.Send(0, 0, make([]byte, api.MaxGram+1)), api.ErrNil)
		for _, i := range []int{0, 1, 2, 3, -1, math.MinInt, math.MaxInt} {
			want(t, what+": Copy", n.Copy(i), api.ErrNil)
			g, there := n.Look(i)
			isNone(t, what+": Look", g, there)
			g, there = n.Take(i)
			isNone(t, what+": Take", g, there)
			if n.Drop(i) || n.Forget(i) != 0 {
				t.Errorf("%s: Drop(%d) %t, Forget %d", what, i, n.Drop(i), n.Forget(i))
			}
		}
		if n.Flying() != 0 {
			t.Errorf("%s: Flying %d", what, n.Flying())
		}
	}
}

// R5: what is done to a copy is not done to the net.
func TestCopyLeavesTheNet(t *testing.T) {
	n := letters(t, "abcabc")
	copied := *n
	copied.Send(0, 1, []byte("!"))
	copied.Copy(0)
	copied.Take(1)
	copied.Drop(0)
	copied.Forget(2)
	spelt(t, n, "abcabc")
	send(t, n, 0, 1, "a")
	spelt(t, n, "abcabca")
}

// spoil writes over all bytes of b, and its spare room.
func spoil(b []byte) {
	b = b[:cap(b)]
	for i := range b {
		b[i] = '#'
	}
}

// R3: what is sent is neither changed nor kept, its spare room neither.
func TestSendKeepsNothing(t *testing.T) {
	n := made(t, 1)
	whole := []byte("abcdefgh")
	want(t, "Send", n.Send(0, 0, whole[:3]), api.OK)
	want(t, "Send", n.Send(0, 0, whole[2:5]), api.OK)
	want(t, "Send", n.Send(0, 0, whole[:0]), api.OK)
	g, _ := n.Take(1)
	spoil(g.Data)
	if string(whole) != "abcdefgh" {
		t.Errorf("handed in bytes became %q", whole)
	}
	want(t, "Send", n.Send(0, 0, whole[6:]), api.OK)
	spoil(whole)
	has(t, n, "0 0 abc", "0 0 ", "0 0 gh")
}

// R3: what is looked at shares no memory with the net, nor with another answer.
func TestLookIsNew(t *testing.T) {
	n := made(t, 1)
	text := strings.Repeat("x", 100)
	send(t, n, 0, 0, text)
	first, _ := n.Look(0)
	second, _ := n.Look(0)
	spoil(first.Data)
	if string(second.Data) != text {
		t.Errorf("looked at ahead: %q", second.Data)
	}
	third, _ := n.Take(0)
	spoil(second.Data)
	if string(third.Data) != text {
		t.Errorf("taken: %q", third.Data)
	}
}

// R3: copies share no memory that could be told: neither when they are looked at, nor when they are taken.
func TestCopiesAreApart(t *testing.T) {
	n := made(t, 1)
	text := strings.Repeat("x", 100)
	send(t, n, 0, 0, text)
	want(t, "Copy", n.Copy(0), api.OK)
	want(t, "Copy", n.Copy(1), api.OK)
	looked, _ := n.Look(1)
	spoil(looked.Data)
	first, _ := n.Take(0)
	spoil(first.Data)
	second, _ := n.Take(1)
	spoil(second.Data)
	has(t, n, "0 0 "+text)
	third, _ := n.Take(0)
	if string(third.Data) != text {
		t.Errorf("taken: %q", third.Data)
	}
}

// heap is how many bytes are in use.
func heap() int {
	runtime.GC()
	var stats runtime.MemStats
	runtime.ReadMemStats(&stats)
	return int(stats.HeapAlloc)
}

// P7.1: a row full of the longest datagram can be had by copies.
func TestFullOfTheLongest(t *testing.T) {
	n := made(t, 2)
	want(t, "Send", n.Send(0, 1, make([]byte, api.MaxGram)), api.OK)
	for range api.MaxFlying - 1 {
		want(t, "Copy", n.Copy(0), api.OK)
	}
	want(t, "Copy", n.Copy(0), api.ErrFull)
	g, there := n.Take(api.MaxFlying - 1)
	if !there || g.From != 0 || g.To != 1 || len(g.Data) != api.MaxGram {
		t.Errorf("Take: %d bytes, %t", len(g.Data), there)
	}
	if told := n.Forget(1); told != api.MaxFlying-1 {
		t.Errorf("Forget(1): %d", told)
	}
	has(t, n)
}

// What has left the row is not kept, however it left.
func TestGoneIsNotKept(t *testing.T) {
	const grams = 32
	for what, leaves := range map[string]func(n *net.Net){
		"Take":   func(n *net.Net) { n.Take(1) },
		"Drop":   func(n *net.Net) { n.Drop(1) },
		"Forget": func(n *net.Net) { n.Forget(1) },
	} {
		n := made(t, 2)
		send(t, n, 0, 0, "stays")
		before := heap()
		for i := range grams {
			want(t, "Send", n.Send(i%2, 1, make([]byte, api.MaxGram)), api.OK)
		}
		for range grams {
			leaves(n)
		}
		if more := heap() - before; more > grams*api.MaxGram/4 {
			t.Errorf("%s: %d bytes are kept", what, more)
		}
		has(t, n, "0 0 stays")
	}
}
