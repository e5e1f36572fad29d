package net_test

import (
	"math"
	"slices"
	"strconv"
	"strings"
	"testing"

	"homestead/api"
	"homestead/net"
)

// made is a new net of so many nodes.
func made(t *testing.T, nodes int) *net.Net {
	t.Helper()
	n, err := net.New(nodes)
	if n == nil || err != api.OK {
		t.Fatalf("New(%d): %v, %d", nodes, n, err)
	}
	return n
}

// want complains unless an error is the one that was wanted.
func want(t *testing.T, what string, got, wanted api.Errno) {
	t.Helper()
	if got != wanted {
		t.Errorf("%s: %d, not %d", what, got, wanted)
	}
}

// show is a datagram as a text: from, to, its bytes (the first of many).
func show(g api.Gram) string {
	return strconv.Itoa(g.From) + " " + strconv.Itoa(g.To) + " " + string(g.Data[:min(len(g.Data), 100)])
}

// send sends text, and complains if that is refused.
func send(t *testing.T, n *net.Net, from, to int, text string) {
	t.Helper()
	want(t, "Send", n.Send(from, to, []byte(text)), api.OK)
}

// row is what Look tells, place by place; it complains unless Flying tells as many.
func row(t *testing.T, n *net.Net) []string {
	t.Helper()
	var row []string
	for i := 0; ; i++ {
		g, there := n.Look(i)
		if !there {
			isNone(t, "Look behind the row", g, there)
			break
		}
		row = append(row, show(g))
	}
	if n.Flying() != len(row) {
		t.Errorf("Flying %d, but Look tells of %d", n.Flying(), len(row))
	}
	return row
}

// has complains unless that is the row.
func has(t *testing.T, n *net.Net, wanted ...string) {
	t.Helper()
	if got := row(t, n); !slices.Equal(got, wanted) {
		t.Errorf("row: %q, not %q", got, wanted)
	}
}

// is complains unless a datagram is told, and is that one.
func is(t *testing.T, what string, g api.Gram, there bool, wanted string) {
	t.Helper()
	if !there || show(g) != wanted {
		t.Errorf("%s: %q, %t; not %q", what, show(g), there, wanted)
	}
}

// isNone complains unless nothing is told.
func isNone(t *testing.T, what string, g api.Gram, there bool) {
	t.Helper()
	if there || g.From != 0 || g.To != 0 || len(g.Data) != 0 {
		t.Errorf("%s: %q, %t", what, show(g), there)
	}
}

// fill is a net whose row is full, of datagrams of node 1 to node 0, numbered in their order.
func fill(t *testing.T) *net.Net {
	t.Helper()
	n := made(t, 2)
	for i := range api.MaxFlying {
		send(t, n, 1, 0, strconv.Itoa(i))
	}
	if n.Flying() != api.MaxFlying {
		t.Fatalf("Flying %d", n.Flying())
	}
	return n
}

// P7.1 to P7.3: the chapter's examples.
func TestExamples(t *testing.T) {
	n := made(t, 2)
	want(t, "Send", n.Send(0, 1, []byte("a")), api.OK)
	want(t, "Send", n.Send(1, 0, []byte("b")), api.OK)
	has(t, n, "0 1 a", "1 0 b")
	want(t, "Copy(0)", n.Copy(0), api.OK)
	has(t, n, "0 1 a", "1 0 b", "0 1 a")
	g, there := n.Take(1)
	is(t, "Take(1)", g, there, "1 0 b")
	if !n.Drop(0) {
		t.Error("Drop(0): false")
	}
	if told := n.Forget(1); told != 1 {
		t.Errorf("Forget(1): %d", told)
	}
	g, there = n.Look(0)
	isNone(t, "Look(0)", g, there)
}

// P7.1: how many nodes a net may have; its row is empty.
func TestNew(t *testing.T) {
	for _, nodes := range []int{math.MinInt, -1, 0, 65, math.MaxInt} {
		if n, err := net.New(nodes); n != nil || err != api.ErrArg {
			t.Errorf("New(%d): %v, %d", nodes, n, err)
		}
	}
	for _, nodes := range []int{1, 2, 9, 63, 64} {
		has(t, made(t, nodes))
	}
}

// P7.1: the nodes are those from 0 on, as many as were asked for, to send as well as to be sent to.
func TestNodes(t *testing.T) {
	for _, nodes := range []int{1, 2, 9, 64} {
		n := made(t, nodes)
		for _, none := range []int{math.MinInt, -1, nodes, nodes + 1, 65, math.MaxInt} {
			want(t, "Send from none", n.Send(none, 0, nil), api.ErrArg)
			want(t, "Send to none", n.Send(0, none, nil), api.ErrArg)
			want(t, "Send from none to none", n.Send(none, none, nil), api.ErrArg)
		}
		has(t, n)
		for node := range nodes {
			send(t, n, node, nodes-1-node, "x")
			g, there := n.Take(0)
			is(t, "Take(0)", g, there, strconv.Itoa(node)+" "+strconv.Itoa(nodes-1-node)+" x")
		}
	}
}

// P7.1: what is sent stands at the row's end, be it to the sender itself, of no bytes, or like another one.
func TestSend(t *testing.T) {
	n := made(t, 3)
	send(t, n, 0, 1, "a")
	has(t, n, "0 1 a")
	send(t, n, 2, 2, "\x00\xff")
	has(t, n, "0 1 a", "2 2 \x00\xff")
	want(t, "Send of nil", n.Send(1, 0, nil), api.OK)
	send(t, n, 1, 2, "")
	send(t, n, 0, 1, "a")
	has(t, n, "0 1 a", "2 2 \x00\xff", "1 0 ", "1 2 ", "0 1 a")
}

// P7.1: how many bytes a datagram may have; all of them come out.
func TestLengths(t *testing.T) {
	n := made(t, 1)
	longest := make([]byte, api.MaxGram)
	for i := range longest {
		longest[i] = byte(i * 7 >> 3)
	}
	want(t, "Send of MaxGram bytes", n.Send(0, 0, longest), api.OK)
	want(t, "Send of one fewer", n.Send(0, 0, longest[1:]), api.OK)
	want(t, "Send of one more", n.Send(0, 0, make([]byte, api.MaxGram+1)), api.ErrLong)
	want(t, "Copy", n.Copy(0), api.OK)
	for i, wanted := range [][]byte{longest, longest[1:], longest} {
		looked, there := n.Look(i)
		if !there || !slices.Equal(looked.Data, wanted) {
			t.Errorf("Look(%d): %d bytes, %t", i, len(looked.Data), there)
		}
	}
	for _, wanted := range [][]byte{longest, longest[1:], longest} {
		taken, there := n.Take(0)
		if !there || !slices.Equal(taken.Data, wanted) {
			t.Errorf("Take(0): %d bytes, %t", len(taken.Data), there)
		}
	}
	has(t, n)
}

// P7.1: the row takes MaxFlying; a place that gets free is taken again.
func TestFull(t *testing.T) {
	n := fill(t)
	before := row(t, n)
	want(t, "Send", n.Send(0, 1, []byte("more")), api.ErrFull)
	want(t, "Copy", n.Copy(0), api.ErrFull)
	want(t, "Copy of the last one", n.Copy(api.MaxFlying-1), api.ErrFull)
	has(t, n, before...)
	for what, leaves := range map[string]func() bool{
		"Take": func() bool { _, there := n.Take(7); return there },
		"Drop": func() bool { return n.Drop(7) },
	} {
		if !leaves() {
			t.Errorf("%s(7): false", what)
		}
		want(t, "Send behind "+what, n.Send(1, 0, []byte("sent")), api.OK)
		want(t, "Send behind that", n.Send(1, 0, nil), api.ErrFull)
		if !leaves() {
			t.Errorf("%s(7): false", what)
		}
		want(t, "Copy behind "+what, n.Copy(2), api.OK)
		want(t, "Copy behind that", n.Copy(2), api.ErrFull)
		before = append(slices.Delete(before, 7, 9), "1 0 sent", "1 0 2")
		has(t, n, before...)
	}
	if told := n.Forget(0); told != api.MaxFlying {
		t.Errorf("Forget(0): %d", told)
	}
	has(t, n)
	send(t, n, 0, 1, "x")
	has(t, n, "0 1 x")
}

// P7.1: of several errors of Send the one that is named first is told.
func TestWhichErrorOfSend(t *testing.T) {
	n := fill(t)
	long := make([]byte, api.MaxGram+1)
	want(t, "a node, long, full", n.Send(2, 0, long), api.ErrArg)
	want(t, "another node, long, full", n.Send(0, -1, long), api.ErrArg)
	want(t, "a node, full", n.Send(-1, 2, nil), api.ErrArg)
	want(t, "long, full", n.Send(0, 1, long), api.ErrLong)
	want(t, "full", n.Send(0, 1, long[1:]), api.ErrFull)
	n.Drop(0)
	want(t, "a node, long", n.Send(2, 2, long), api.ErrArg)
	want(t, "long", n.Send(0, 1, long), api.ErrLong)
	want(t, "none", n.Send(0, 1, long[1:]), api.OK)
}

// P7.1: of several errors of Copy the one that is named first is told.
func TestWhichErrorOfCopy(t *testing.T) {
	n := fill(t)
	for _, none := range []int{math.MinInt, -1, api.MaxFlying, math.MaxInt} {
		want(t, "nothing there, full", n.Copy(none), api.ErrArg)
	}
	want(t, "full", n.Copy(0), api.ErrFull)
}

// places are some where nothing is in a row of so many.
func places(flying int) []int {
	return []int{math.MinInt, -2, -1, flying, flying + 1, math.MaxInt}
}

// P7.1 to P7.3: nothing is at a place that the row does not have; asking for it changes nothing.
func TestNothingThere(t *testing.T) {
	n := made(t, 2)
	var wanted []string
	for flying := range 20 {
		for _, i := range places(flying) {
			at := " at " + strconv.Itoa(i) + " of " + strconv.Itoa(flying)
			g, there := n.Look(i)
			isNone(t, "Look"+at, g, there)
			g, there = n.Take(i)
			isNone(t, "Take"+at, g, there)
			if n.Drop(i) {
				t.Error("Drop" + at)
			}
			want(t, "Copy"+at, n.Copy(i), api.ErrArg)
		}
		has(t, n, wanted...)
		send(t, n, 1, 0, strconv.Itoa(flying))
		wanted = append(wanted, "1 0 "+strconv.Itoa(flying))
	}
}

// letters is a net of three nodes, its row one datagram for each letter of a text.
func letters(t *testing.T, text string) *net.Net {
	t.Helper()
	n := made(t, 3)
	for i := range len(text) {
		from, to := thirds(text[i])
		send(t, n, from, to, text[i:i+1])
	}
	return n
}

// thirds are the nodes between which a letter is on its way: a from 0 to 1, b from 1 to 2, c from 2 to 0, and so on.
func thirds(letter byte) (from, to int) {
	return int(letter+2) % 3, int(letter) % 3
}

// spelt complains unless the row is of these letters.
func spelt(t *testing.T, n *net.Net, text string) {
	t.Helper()
	var wanted []string
	for i := range len(text) {
		from, to := thirds(text[i])
		wanted = append(wanted, show(api.Gram{From: from, To: to, Data: []byte(text[i : i+1])}))
	}
	has(t, n, wanted...)
}

// P7.1: a copy is like the one at the place, and stands at the end.
func TestCopy(t *testing.T) {
	const text = "abcdefg"
	for i := range len(text) {
		n := letters(t, text)
		want(t, "Copy", n.Copy(i), api.OK)
		spelt(t, n, text+text[i:i+1])
		want(t, "Copy", n.Copy(len(text)), api.OK)
		want(t, "Copy", n.Copy(0), api.OK)
		spelt(t, n, text+text[i:i+1]+text[i:i+1]+text[:1])
	}
}

// P7.2: what is at the place leaves, and is told or not; all others stay in their order.
func TestTakeAndDrop(t *testing.T) {
	const text = "abcdefg"
	for i := range len(text) {
		n := letters(t, text)
		looked, _ := n.Look(i)
		g, there := n.Take(i)
		is(t, "Take", g, there, show(looked))
		spelt(t, n, text[:i]+text[i+1:])
		n = letters(t, text)
		if !n.Drop(i) {
			t.Errorf("Drop(%d): false", i)
		}
		spelt(t, n, text[:i]+text[i+1:])
	}
}

// P7.2: only one leaves, be there others like it.
func TestOneLeaves(t *testing.T) {
	n := letters(t, "aabaa")
	n.Take(1)
	spelt(t, n, "abaa")
	n.Drop(3)
	spelt(t, n, "aba")
	n.Take(0)
	n.Drop(1)
	spelt(t, n, "b")
}

// P7.2: all that are for the node leave, whoever sent them; those that it sent stay.
func TestForget(t *testing.T) {
	const text = "abcdefghaabbcc"
	for node, left := range []string{"abdeghaabb", "bcefhbbcc", "acdfgaacc"} {
		n := letters(t, text)
		if told := n.Forget(node); told != len(text)-len(left) {
			t.Errorf("Forget(%d): %d", node, told)
		}
		spelt(t, n, left)
		if told := n.Forget(node); told != 0 {
			t.Errorf("Forget(%d) again: %d", node, told)
		}
		spelt(t, n, left)
	}
}

// P7.2: for what is no node there is nothing.
func TestForgetNoNode(t *testing.T) {
	n := letters(t, "abc")
	for _, node := range []int{math.MinInt, -1, 3, 64, math.MaxInt} {
		if told := n.Forget(node); told != 0 {
			t.Errorf("Forget(%d): %d", node, told)
		}
	}
	spelt(t, n, "abc")
}

// P7.2: of an empty row nobody leaves.
func TestForgetOfNone(t *testing.T) {
	n := made(t, 3)
	for node := range 3 {
		if told := n.Forget(node); told != 0 {
			t.Errorf("Forget(%d): %d", node, told)
		}
	}
	has(t, n)
}

// P7.3: Look and Flying tell the same again and again.
func TestAskingChangesNothing(t *testing.T) {
	n := letters(t, "abcabc")
	for range 3 {
		for i := range 6 {
			first, _ := n.Look(i)
			g, there := n.Look(i)
			is(t, "Look again", g, there, show(first))
		}
		if n.Flying() != 6 {
			t.Errorf("Flying %d", n.Flying())
		}
	}
	spelt(t, n, "abcabc")
}

// P7.4: one that is copied, and then dropped where it was, has gone to the end.
func TestCopyAndDropTurnAbout(t *testing.T) {
	const text = "abcdefg"
	for i := range len(text) {
		n := letters(t, text)
		want(t, "Copy", n.Copy(i), api.OK)
		if !n.Drop(i) {
			t.Errorf("Drop(%d): false", i)
		}
		spelt(t, n, text[:i]+text[i+1:]+text[i:i+1])
	}
}

// P7.4: of what was sent the earlier one is ahead, as long as nothing is copied.
func TestEarlierOnesAreAhead(t *testing.T) {
	n := made(t, 2)
	sent := 0
	for number := range 500 {
		for range number % 5 {
			send(t, n, number%2, sent*sent%2, string(rune(0x1000+sent)))
			sent++
		}
		n.Take(number * number % 7)
		n.Drop(number % 11)
		if number%50 == 49 {
			n.Forget(number / 50 % 2)
		}
		var order []string
		for i := range n.Flying() {
			g, _ := n.Look(i)
			order = append(order, string(g.Data))
		}
		if !slices.IsSorted(order) || len(slices.Compact(order)) != n.Flying() {
			t.Fatalf("behind %d: %q", number, order)
		}
	}
}

// P7.4: to forget nodes, one by one, comes to the same in whatever order; to forget all leaves none.
func TestForgetInWhateverOrder(t *testing.T) {
	text := strings.Repeat("abcbcacab", 5)
	for _, orders := range [][][]int{
		{{0, 1}, {1, 0}, {0, 1, 0}},
		{{1, 2}, {2, 1}, {2, 2, 1}},
		{{0, 2}, {2, 0}, {0, 7, 2}},
		{{0, 1, 2}, {0, 2, 1}, {1, 0, 2}, {1, 2, 0}, {2, 0, 1}, {2, 1, 0}},
	} {
		var wanted []string
		for at, order := range orders {
			n := letters(t, text)
			told := 0
			for _, node := range order {
				told += n.Forget(node)
			}
			if at == 0 {
				wanted = row(t, n)
			}
			has(t, n, wanted...)
			if told+n.Flying() != len(text) || (len(orders) == 6) != (n.Flying() == 0) {
				t.Errorf("%v: %d were forgotten, %d are left", order, told, n.Flying())
			}
		}
	}
}

// P7.1: nets have nothing of each other.
func TestNetsAreApart(t *testing.T) {
	first, second := made(t, 2), made(t, 2)
	send(t, first, 0, 1, "a")
	has(t, second)
	send(t, second, 1, 0, "b")
	first.Forget(0)
	second.Copy(0)
	has(t, first, "0 1 a")
	has(t, second, "1 0 b", "1 0 b")
}
