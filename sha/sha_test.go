package sha

import (
	"bytes"
	"crypto/sha256"
	"encoding/hex"
	"math"
	"math/big"
	"strings"
	"testing"

	"blazon/api"
)

// text is n bytes of which no two neighbouring blocks are the same.
func text(n int) []byte {
	b := make([]byte, n)
	for i := range b {
		b[i] = byte(i*7 + i/64*13 + 1)
	}
	return b
}

// check holds a digest against that of the library's own SHA-256.
func check(t *testing.T, what string, got api.Digest, b []byte) {
	t.Helper()
	if want := api.Digest(sha256.Sum256(b)); got != want {
		t.Fatalf("%s: %x, want %x", what, got, want)
	}
}

// edges is lengths around the ends of blocks, and of the room that the padding needs there.
func edges() []int {
	l := []int{0, 1, 2, 3, 4, 31, 32, 33}
	for blocks := 1; blocks <= 4; blocks++ {
		for near := -10; near <= 2; near++ {
			l = append(l, 64*blocks+near)
		}
	}
	return l
}

// fraction is the first 32 bits of the fractional part of a prime's root of that degree.
func fraction(prime, degree int64) uint32 {
	scaled := new(big.Int).Lsh(big.NewInt(prime), uint(32*degree))
	low, high := big.NewInt(0), new(big.Int).Lsh(big.NewInt(1), 64)
	for {
		middle := new(big.Int).Add(low, high)
		middle.Rsh(middle, 1)
		if middle.Cmp(low) == 0 {
			return uint32(low.Uint64())
		}
		if new(big.Int).Exp(middle, big.NewInt(degree), nil).Cmp(scaled) <= 0 {
			low = middle
		} else {
			high = middle
		}
	}
}

func primes(n int) []int64 {
	var l []int64
	for p := int64(2); len(l) < n; p++ {
		if big.NewInt(p).ProbablyPrime(0) {
			l = append(l, p)
		}
	}
	return l
}

// 1.1: the words with which the digest begins, and those of the rounds.
func TestWords(t *testing.T) {
	l := primes(64)
	if l[63] != 311 {
		t.Fatalf("the last prime number is %d", l[63])
	}
	for i, w := range firstWords() {
		if want := fraction(l[i], 2); w != want {
			t.Errorf("first word %d: %08x, want %08x", i, w, want)
		}
	}
	for i, w := range roundWords {
		if want := fraction(l[i], 3); w != want {
			t.Errorf("word of round %d: %08x, want %08x", i, w, want)
		}
	}
}

// 1.1: texts whose digests are published.
func TestSumOfKnownTexts(t *testing.T) {
	for _, c := range []struct{ text, digest string }{
		{"", "e3b0c44298fc1c149afbf4c8996fb92427ae41e4649b934ca495991b7852b855"},
		{"abc", "ba7816bf8f01cfea414140de5dae2223b00361a396177a9cb410ff61f20015ad"},
		{"abcdbcdecdefdefgefghfghighijhijkijkljklmklmnlmnomnopnopq", "248d6a61d20638b8e5c026930c3e6039a33ce45964ff2167f6ecedd419db06c1"},
		{"abcdefghbcdefghicdefghijdefghijkefghijklfghijklmghijklmnhijklmnoijklmnopjklmnopqklmnopqrlmnopqrsmnopqrstnopqrstu", "cf5b16a778af8380036ce59e7b0492370b249b11e8f07a51afac45037afee9d1"},
		{strings.Repeat("a", 1000000), "cdc76e5c9914fb9281a1c7e284d73e67f1809a48a497200e046d39ccc7112cd0"},
	} {
		d := Sum([]byte(c.text))
		if got := hex.EncodeToString(d[:]); got != c.digest {
			t.Errorf("%d bytes: %s, want %s", len(c.text), got, c.digest)
		}
	}
}

// 1.1: texts of all lengths up to some blocks, of all bytes alike, and a long one.
func TestSumOfAllLengths(t *testing.T) {
	for n := range 520 {
		check(t, "mixed bytes", Sum(text(n)), text(n))
		for _, x := range []byte{0, 0x80, 0xff} {
			b := bytes.Repeat([]byte{x}, n)
			check(t, "bytes alike", Sum(b), b)
		}
	}
	long := text(api.MaxBytes + 1)
	check(t, "long", Sum(long), long)
}

// 1.1: a list that is nil and one without elements are the same.
func TestSumOfNothing(t *testing.T) {
	check(t, "nil", Sum(nil), nil)
	check(t, "empty", Sum([]byte{}), nil)
	check(t, "empty, with bytes behind it", Sum([]byte("abc")[:0]), nil)
}

// 1.1: a text and its padding are whole blocks, and the digest is that of the blocks one behind the other.
func TestSumIsOfPaddedBlocks(t *testing.T) {
	for _, n := range edges() {
		padded := append(text(n), Pad(uint64(n))...)
		if len(padded)%blockSize != 0 {
			t.Fatalf("%d bytes with their padding: %d", n, len(padded))
		}
		words := firstWords()
		for len(padded) > 0 {
			words = mix(words, [blockSize]byte(padded))
			padded = padded[blockSize:]
		}
		if Sum(text(n)) != wordBytes(words) {
			t.Fatalf("%d bytes: not the digest of the padded blocks", n)
		}
	}
}

// checkPad holds Pad against the document's words, counted in numbers without bounds.
func checkPad(t *testing.T, n uint64) {
	t.Helper()
	want := []byte{0x80}
	at := new(big.Int).SetUint64(n)
	at.Add(at, big.NewInt(1))
	for new(big.Int).Mod(at, big.NewInt(64)).Int64() != 56 {
		want = append(want, 0)
		at.Add(at, big.NewInt(1))
	}
	count := new(big.Int).SetUint64(n)
	count.Mul(count, big.NewInt(8))
	count.Mod(count, new(big.Int).Lsh(big.NewInt(1), 64))
	want = append(want, count.FillBytes(make([]byte, 8))...)
	if got := Pad(n); !bytes.Equal(got, want) {
		t.Fatalf("Pad(%d): %x, want %x", n, got, want)
	}
}

// 1.1: Pad of numbers of all sizes, also where 8 n goes past 2^64.
func TestPad(t *testing.T) {
	for n := range uint64(300) {
		checkPad(t, n)
		checkPad(t, math.MaxUint64-n)
	}
	for shift := range 64 {
		for near := range uint64(140) {
			checkPad(t, 1<<shift+near)
			checkPad(t, 1<<shift-near)
		}
	}
}

// 1.1: the chapter's example, and the lengths around the end of a block.
func TestPadOfKnownNumbers(t *testing.T) {
	if got, want := Pad(0), append([]byte{0x80}, make([]byte, 63)...); !bytes.Equal(got, want) {
		t.Errorf("Pad(0): %x", got)
	}
	for _, c := range []struct {
		n      uint64
		length int
	}{
		{54, 10}, {55, 9}, {56, 72}, {57, 71}, {63, 65}, {64, 64}, {65, 63}, {119, 9}, {120, 72},
		{1 << 61, 64}, {math.MaxUint64, 65}, {math.MaxUint64 - 8, 9}, {math.MaxUint64 - 7, 72},
	} {
		if got := len(Pad(c.n)); got != c.length {
			t.Errorf("Pad(%d): %d bytes, want %d", c.n, got, c.length)
		}
	}
	if got := Pad(1 << 61); !bytes.Equal(got[1:], make([]byte, 63)) {
		t.Errorf("Pad(2^61): %x", got)
	}
	if got := Pad(math.MaxUint64); !bytes.Equal(got[57:], []byte{255, 255, 255, 255, 255, 255, 255, 248}) {
		t.Errorf("Pad(2^64 - 1): %x", got)
	}
}

// 1.1: what is answered is new memory, with nothing behind its end.
func TestPadIsNew(t *testing.T) {
	a, b := Pad(3), Pad(3)
	for i := range a {
		a[i] = 0xaa
	}
	if !bytes.Equal(b, Pad(3)) {
		t.Error("two answers share memory")
	}
	checkPad(t, 3)
	for n := range uint64(130) {
		if p := Pad(n); len(p) != cap(p) {
			t.Fatalf("Pad(%d): %d bytes with room for %d", n, len(p), cap(p))
		}
	}
}

// 1.2: a text in two pieces, cut anywhere.
func TestTwoPieces(t *testing.T) {
	b := text(200)
	for i := range len(b) + 1 {
		h := New()
		h.Write(b[:i])
		check(t, "the first piece", h.Digest(), b[:i])
		h.Write(b[i:])
		check(t, "both", h.Digest(), b)
	}
}

// 1.2: a text in pieces of one size, its digest asked behind each.
func TestManyPieces(t *testing.T) {
	b := text(700)
	for size := 1; size <= 200; size++ {
		asked, silent := New(), New()
		for at := 0; at < len(b); at += size {
			end := min(at+size, len(b))
			asked.Write(b[at:end])
			check(t, "asked in between", asked.Digest(), b[:end])
			silent.Write(b[at:end])
		}
		check(t, "asked at the end", silent.Digest(), b)
	}
}

// 1.2: pieces of unlike sizes, those around the ends of blocks among them.
func TestUnlikePieces(t *testing.T) {
	for _, first := range edges() {
		for _, second := range edges() {
			b := text(first + second + 5)
			h := New()
			h.Write(b[:first])
			h.Write(b[first : first+second])
			h.Write(b[first+second:])
			check(t, "three pieces", h.Digest(), b)
		}
	}
}

// 1.2: nothing written is as if it were not written.
func TestWriteNothing(t *testing.T) {
	check(t, "new", New().Digest(), nil)
	for _, n := range edges() {
		h := New()
		h.Write(nil)
		h.Write(text(n))
		h.Write([]byte{})
		h.Write(nil)
		check(t, "with nothing around it", h.Digest(), text(n))
	}
}

// 1.2: a digest may be asked again and again, and is that of all that was written.
func TestDigestChangesNothing(t *testing.T) {
	for _, n := range edges() {
		h := New()
		h.Write(text(n))
		first := h.Digest()
		if h.Digest() != first {
			t.Fatalf("%d bytes: the second digest is another one", n)
		}
		first[0]++
		check(t, "behind a digest that was changed", h.Digest(), text(n))
		if Sum(text(n)) != h.Digest() {
			t.Fatalf("%d bytes: not Sum of what was written", n)
		}
	}
}

// 1.2: a clone has the same, and both go their own ways.
func TestClone(t *testing.T) {
	for _, n := range edges() {
		for _, more := range []int{0, 1, 55, 64, 130} {
			start := text(n)
			left, right := bytes.Repeat([]byte{1}, more), bytes.Repeat([]byte{2}, more+1)
			h := New()
			h.Write(start)
			c := h.Clone()
			check(t, "a clone", c.Digest(), start)
			h.Write(left)
			check(t, "a clone whose first one went on", c.Digest(), start)
			c.Write(right)
			check(t, "the first one", h.Digest(), append(text(n), left...))
			check(t, "the clone", c.Digest(), append(text(n), right...))
		}
	}
}

// 1.2: a clone of a clone, and a clone of nothing.
func TestCloneOfClone(t *testing.T) {
	a := New()
	b := a.Clone()
	b.Write([]byte("b"))
	c := b.Clone()
	c.Write([]byte("c"))
	check(t, "first", a.Digest(), nil)
	check(t, "second", b.Digest(), []byte("b"))
	check(t, "third", c.Digest(), []byte("bc"))
}

// 1.2: hashes know nothing of each other.
func TestNewIsNew(t *testing.T) {
	a, b := New(), New()
	a.Write(text(70))
	check(t, "the other one", b.Digest(), nil)
	b.Write(text(3))
	check(t, "the first one", a.Digest(), text(70))
	check(t, "one more", New().Digest(), nil)
}

// R3: what is handed in is not changed, and what lies behind its length is neither read nor written.
func TestHandedInStays(t *testing.T) {
	for _, n := range edges() {
		room := bytes.Repeat([]byte{0xcc}, n+100)
		copy(room, text(n))
		was := bytes.Clone(room)
		h := New()
		h.Write(room[:n])
		check(t, "written", h.Digest(), text(n))
		check(t, "summed", Sum(room[:n]), text(n))
		if !bytes.Equal(room, was) {
			t.Fatalf("%d bytes: what was handed in has changed", n)
		}
	}
}

// R3: what is handed in is not kept.
func TestHandedInIsNotKept(t *testing.T) {
	for _, n := range edges() {
		b := text(n)
		h := New()
		h.Write(b)
		c := h.Clone()
		clear(b)
		check(t, "written", h.Digest(), text(n))
		check(t, "cloned", c.Digest(), text(n))
	}
}

// P1: none of the calls panics, not even on a hash that New did not make.
func TestZeroHash(t *testing.T) {
	var h Hash
	h.Write(text(130))
	h.Clone().Write(text(3))
	if h.Digest() != h.Digest() {
		t.Error("two digests of one hash")
	}
}
