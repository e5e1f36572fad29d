package sha_test

import (
	"bytes"
	"cmp"
	"crypto/hmac"
	"crypto/sha256"
	"encoding/hex"
	"strings"
	"sync"
	"testing"

	"homestead/sha"
)

// noise is n bytes that look like none in particular.
func noise(n int) []byte {
	b := make([]byte, n)
	state := uint32(n) + 1
	for i := range b {
		state = state*1664525 + 1013904223
		b[i] = byte(state >> 24)
	}
	return b
}

// roomy is b with spare room behind it, and all of that memory.
func roomy(b []byte) ([]byte, []byte) {
	whole := append(append([]byte{}, b...), strings.Repeat("#", 200)...)
	return whole[:len(b)], whole
}

// lengths are those about the ends of blocks, and about what leaves room for a message's end.
func lengths() []int {
	out := []int{0, 1, 2, 3, 4, 31, 32, 33, 1000, 4096}
	for block := 64; block <= 320; block += 64 {
		for n := block - 10; n <= block+2; n++ {
			out = append(out, n)
		}
	}
	return out
}

// truth is the library's hash by a key.
func truth(key, b []byte) [32]byte {
	h := hmac.New(sha256.New, key)
	h.Write(b)
	return [32]byte(h.Sum(nil))
}

// P2.1: the chapter's examples, and others that are published.
func TestOfExamples(t *testing.T) {
	two := "abcdbcdecdefdefgefghfghighijhijkijkljklmklmnlmnomnopnopq"
	four := "abcdefghbcdefghicdefghijdefghijkefghijklfghijklmghijklmnhijklmnoijklmnopjklmnopqklmnopqrlmnopqrsmnopqrstnopqrstu"
	for text, want := range map[string]string{
		"":                             "e3b0c44298fc1c149afbf4c8996fb92427ae41e4649b934ca495991b7852b855",
		"abc":                          "ba7816bf8f01cfea414140de5dae2223b00361a396177a9cb410ff61f20015ad",
		two:                            "248d6a61d20638b8e5c026930c3e6039a33ce45964ff2167f6ecedd419db06c1",
		four:                           "cf5b16a778af8380036ce59e7b0492370b249b11e8f07a51afac45037afee9d1",
		strings.Repeat("a", 1_000_000): "cdc76e5c9914fb9281a1c7e284d73e67f1809a48a497200e046d39ccc7112cd0",
	} {
		if got := sha.Hex(sha.Of([]byte(text))); got != want {
			t.Errorf("Of %d bytes: %s", len(text), got)
		}
	}
	if got := sha.Of([]byte{}); got != sha.Of(nil) {
		t.Errorf("an empty list's hash is not that of none: %x", got)
	}
}

// P2.1: bytes of each length up to some blocks, the edges among them, as the chapter's words say.
func TestOfEachLength(t *testing.T) {
	for n := range 200 {
		if b := noise(n); sha.Of(b) != slowOf(b) {
			t.Errorf("Of %d bytes: %x", n, sha.Of(b))
		}
	}
	for n := range 1200 {
		for _, b := range [][]byte{noise(n), make([]byte, n), bytes.Repeat([]byte{255}, n), bytes.Repeat([]byte{128}, n)} {
			if sha.Of(b) != sha256.Sum256(b) {
				t.Errorf("Of %d bytes: %x", n, sha.Of(b))
			}
		}
	}
}

// P2.1: the count of bits has more than three bytes.
func TestOfManyBytes(t *testing.T) {
	for _, n := range []int{1<<21 - 1, 1 << 21, 1<<21 + 55, 1<<21 + 56, 5_000_003} {
		if b := noise(n); sha.Of(b) != sha256.Sum256(b) {
			t.Errorf("Of %d bytes: %x", n, sha.Of(b))
		}
	}
}

// P2.1: the count of bits has more than four bytes.
func TestOfMoreBitsThanAWordCounts(t *testing.T) {
	if testing.Short() {
		t.Skip("half a gigabyte")
	}
	if b := make([]byte, 1<<29+1); sha.Of(b) != sha256.Sum256(b) {
		t.Errorf("Of %d bytes: %x", len(b), sha.Of(b))
	}
}

// P2.1: each bit of what is hashed counts.
func TestOfTellsBitsApart(t *testing.T) {
	b := noise(130)
	seen := map[[32]byte]int{sha.Of(b): -1}
	for bit := range 8 * len(b) {
		b[bit/8] ^= 1 << (bit % 8)
		hash := sha.Of(b)
		if with, ok := seen[hash]; ok || hash != sha256.Sum256(b) {
			t.Errorf("bit %d turned: %x, as with bit %d turned", bit, hash, with)
		}
		seen[hash] = bit
		b[bit/8] ^= 1 << (bit % 8)
	}
}

// P2.1: the chapter's example, and others that are published (RFC 4231).
func TestHmacExamples(t *testing.T) {
	long := strings.Repeat("\xaa", 131)
	for _, c := range []struct{ key, text, want string }{
		{"Jefe", "what do ya want for nothing?", "5bdcc146bf60754e6a042426089575c75a003f089d2739839dec58b964ec3843"},
		{"", "", "b613679a0814d9ec772f95d778c35fc5ff1697c493715653c6c712144292c5ad"},
		{strings.Repeat("\x0b", 20), "Hi There", "b0344c61d8db38535ca8afceaf0bf12b881dc200c9833da726e9376c2e32cff7"},
		{strings.Repeat("\xaa", 20), strings.Repeat("\xdd", 50), "773ea91e36800e46854db8ebd09181a72959098b3ef8c122d9635514ced565fe"},
		{long, "Test Using Larger Than Block-Size Key - Hash Key First", "60e431591ee0b67f0d8a26aacbf5b77f8e0bc6213728c5140546040f0ee37f54"},
		{long, "This is a test using a larger than block-size key and a larger than block-size data. The key needs to be hashed before being used by the HMAC algorithm.", "9b09ffa71b942fcb27635fbcd5b0e944bfdc63644f0713938a7f51535c3a35e2"},
	} {
		if got := sha.Hex(sha.Hmac([]byte(c.key), []byte(c.text))); got != c.want {
			t.Errorf("Hmac of a key of %d bytes, and %q: %s", len(c.key), c.text, got)
		}
	}
	if sha.Hmac([]byte{}, []byte{}) != sha.Hmac(nil, nil) {
		t.Error("empty lists are not the same as none")
	}
}

// P2.1: keys and bytes of each length about the ends of blocks.
func TestHmacEachLength(t *testing.T) {
	for _, k := range []int{0, 1, 4, 31, 32, 33, 63, 64, 65, 66, 127, 128, 129, 500} {
		for _, n := range lengths() {
			key, b := noise(k), noise(n)
			if got := sha.Hmac(key, b); got != truth(key, b) {
				t.Errorf("Hmac of a key of %d bytes, and %d bytes: %x", k, n, got)
			}
		}
	}
	for k := range 140 {
		key, b := noise(k), noise(2*k)
		if got := sha.Hmac(key, b); got != slowHmac(key, b) {
			t.Errorf("Hmac of a key of %d bytes: %x", k, got)
		}
	}
}

// P2.1: two digits a byte, the higher one first.
func TestHexDigits(t *testing.T) {
	var rising, falling [32]byte
	for i := range rising {
		rising[i], falling[i] = byte(i), byte(255-i)
	}
	for h, want := range map[[32]byte]string{
		{}:             strings.Repeat("0", 64),
		rising:         "000102030405060708090a0b0c0d0e0f101112131415161718191a1b1c1d1e1f",
		falling:        "fffefdfcfbfaf9f8f7f6f5f4f3f2f1f0efeeedecebeae9e8e7e6e5e4e3e2e1e0",
		{0: 1, 31: 16}: "01" + strings.Repeat("0", 60) + "10",
	} {
		if got := sha.Hex(h); got != want {
			t.Errorf("Hex of %v: %s", h, got)
		}
	}
	for x := range 256 {
		for i := range 32 {
			h := rising
			h[i] = byte(x)
			if got := sha.Hex(h); got != hex.EncodeToString(h[:]) {
				t.Errorf("Hex of %v: %s", h, got)
			}
		}
	}
}

// P2.2: hashes that differ in one byte, wherever it is, have texts in the same order.
func TestHexKeepsOrder(t *testing.T) {
	for i := range 32 {
		for less := range 255 {
			low, high := sha.Of(nil), sha.Of(nil)
			low[i], high[i] = byte(less), byte(less+1)
			if sha.Hex(low) >= sha.Hex(high) {
				t.Errorf("byte %d, %d and %d: %s, %s", i, less, less+1, sha.Hex(low), sha.Hex(high))
			}
		}
	}
}

// P2.2: likewise, of any two hashes; the first byte that is another one counts.
func TestHexTellsHashesApart(t *testing.T) {
	var all [][32]byte
	for n := range 60 {
		hash := sha.Of(noise(n))
		all = append(all, hash)
		hash[n%32] ^= 16
		all = append(all, hash)
		hash[31]++
		all = append(all, hash)
	}
	for _, one := range all {
		for _, other := range all {
			if cmp.Compare(sha.Hex(one), sha.Hex(other)) != bytes.Compare(one[:], other[:]) {
				t.Errorf("%x and %x", one, other)
			}
		}
	}
}

// P2.2: noughts behind a key that is short say nothing, as long as it has one block.
func TestNoughtsBehindAKeySayNothing(t *testing.T) {
	b := []byte("some bytes")
	for _, n := range []int{0, 1, 20, 63, 64} {
		key := noise(n)
		want := sha.Hmac(key, b)
		for longer := n; longer <= 64; longer++ {
			padded := append(append([]byte{}, key...), make([]byte, longer-n)...)
			if got := sha.Hmac(padded, b); got != want {
				t.Errorf("a key of %d bytes, with %d noughts: %x", n, longer-n, got)
			}
		}
		over := append(append([]byte{}, key...), make([]byte, 65-n)...)
		if sha.Hmac(over, b) == want {
			t.Errorf("a key of %d bytes is the same with noughts up to 65", n)
		}
	}
}

// P2.2: a long key's hash is the same key; a key of one block is not hashed.
func TestALongKeysHashIsThatKey(t *testing.T) {
	b := noise(100)
	for _, n := range []int{65, 66, 100, 128, 1000} {
		key := noise(n)
		hash := sha.Of(key)
		padded := append(hash[:], make([]byte, 32)...)
		if want := sha.Hmac(key, b); sha.Hmac(hash[:], b) != want || sha.Hmac(padded, b) != want {
			t.Errorf("a key of %d bytes and its hash are not one", n)
		}
	}
	for _, n := range []int{0, 1, 32, 63, 64} {
		key := noise(n)
		hash := sha.Of(key)
		if sha.Hmac(key, b) == sha.Hmac(hash[:], b) {
			t.Errorf("a key of %d bytes and its hash are one", n)
		}
	}
}

// P2.2: keys of other blocks are other keys: each bit of a short one counts, noughts ahead of it too.
func TestOtherKeysAreOthers(t *testing.T) {
	key, b := noise(64), noise(10)
	seen := map[[32]byte]bool{sha.Hmac(key, b): true, sha.Hmac(append([]byte{0}, key[:63]...), b): true}
	for bit := range 8 * len(key) {
		key[bit/8] ^= 1 << (bit % 8)
		hash := sha.Hmac(key, b)
		if seen[hash] {
			t.Errorf("bit %d of the key says nothing", bit)
		}
		seen[hash] = true
		key[bit/8] ^= 1 << (bit % 8)
	}
}

// R3: what is handed in stays as it was, its spare room too.
func TestHandedInStays(t *testing.T) {
	for _, n := range lengths() {
		b, whole := roomy(noise(n))
		key, wholeKey := roomy(noise(n + 1))
		before, beforeKey := string(whole), string(wholeKey)
		if got := sha.Of(b); got != sha256.Sum256(b) || string(whole) != before {
			t.Errorf("Of %d bytes with room: %x", n, got)
		}
		if got := sha.Hmac(key, b); got != truth(key, b) || string(whole) != before || string(wholeKey) != beforeKey {
			t.Errorf("Hmac of %d bytes with room: %x", n, got)
		}
	}
}

// R3: a key and bytes that share memory are told as they were.
func TestSharedMemory(t *testing.T) {
	for _, n := range []int{0, 1, 32, 63, 64, 65, 130} {
		whole := noise(300)
		before := string(whole)
		for _, c := range [][2][]byte{{whole[:n], whole[n:]}, {whole[n:], whole[:n]}, {whole[:n], whole[:n]}, {whole[:n], whole[n/2:]}} {
			if got := sha.Hmac(c[0], c[1]); got != truth(c[0], c[1]) || string(whole) != before {
				t.Errorf("Hmac of %d and %d shared bytes: %x", len(c[0]), len(c[1]), got)
			}
		}
	}
}

// R3, R4: nothing is kept: what was handed in may change, and the next answer hangs on its own arguments.
func TestNothingIsKept(t *testing.T) {
	key, b := noise(70), noise(70)
	hash, keyed := sha.Of(b), sha.Hmac(key, b)
	wantHash, wantKeyed := hash, keyed
	text := sha.Hex(hash)
	clear(key)
	clear(b)
	if sha.Of(b) != sha256.Sum256(b) || sha.Hmac(key, b) != truth(key, b) {
		t.Error("an answer hangs on what was handed in before")
	}
	if hash != wantHash || keyed != wantKeyed || text != hex.EncodeToString(hash[:]) {
		t.Error("an answer changed with what was handed in")
	}
	if sha.Of(noise(70)) != hash || sha.Hmac(noise(70), noise(70)) != keyed || sha.Hex(hash) != text {
		t.Error("the same arguments have another answer")
	}
}

// R4: calls at the same time do not disturb each other.
func TestCallsAtTheSameTime(t *testing.T) {
	var group sync.WaitGroup
	for n := range 16 {
		group.Go(func() {
			for i := range 50 {
				key, b := noise(n*10), noise(i*7+n)
				if sha.Of(b) != sha256.Sum256(b) || sha.Hmac(key, b) != truth(key, b) {
					t.Errorf("%d, %d: another answer", n, i)
				}
			}
		})
	}
	group.Wait()
}

// R1, P2.1, P2.2: any bytes.
func FuzzHashes(f *testing.F) {
	f.Add([]byte(nil), []byte(nil))
	f.Add([]byte("Jefe"), []byte("what do ya want for nothing?"))
	f.Add(noise(64), noise(55))
	f.Add(noise(65), noise(56))
	f.Fuzz(func(t *testing.T, key, b []byte) {
		if hash := sha.Of(b); hash != sha256.Sum256(b) || sha.Hex(hash) != hex.EncodeToString(hash[:]) {
			t.Errorf("Of: %x", hash)
		}
		if got := sha.Hmac(key, b); got != truth(key, b) {
			t.Errorf("Hmac: %x", got)
		}
	})
}
