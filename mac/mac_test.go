package mac

import (
	"bytes"
	"crypto/hmac"
	"crypto/sha256"
	"encoding/hex"
	"slices"
	"strings"
	"testing"
	"time"

	"blazon/api"
	"blazon/sha"
)

// text is n bytes, none of them a nought, of which no two neighbouring blocks are the same.
func text(n int) []byte {
	b := make([]byte, n)
	for i := range b {
		b[i] = byte((i*7+i/64*13)%255 + 1)
	}
	return b
}

// library is the keyed digest by the library's own HMAC.
func library(key, b []byte) api.Digest {
	h := hmac.New(sha256.New, key)
	h.Write(b)
	return api.Digest(h.Sum(nil))
}

// inOwnWords is the keyed digest as the document says it.
func inOwnWords(key, b []byte) api.Digest {
	k := bytes.Clone(key)
	if len(k) > 64 {
		d := sha.Sum(k)
		k = d[:]
	}
	k = append(k, make([]byte, 64-len(k))...)
	turned := func(by byte) []byte {
		l := make([]byte, 0, 64)
		for _, x := range k {
			l = append(l, x&^by|by&^x)
		}
		return l
	}
	inner := sha.Sum(append(turned(0x36), b...))
	return sha.Sum(append(turned(0x5c), inner[:]...))
}

// lengths is how many bytes keys and texts have: none, few, and those around the ends of blocks.
func lengths() []int {
	return []int{0, 1, 2, 31, 32, 33, 55, 56, 63, 64, 65, 66, 127, 128, 129, 192, 300}
}

// cut is b in pieces of that size, one without bytes ahead of each and one behind all.
func cut(b []byte, size int) [][]byte {
	var parts [][]byte
	for piece := range slices.Chunk(b, size) {
		parts = append(parts, nil, piece)
	}
	return append(parts, []byte{})
}

// 2.1: the chapter's example, and others whose keyed digests are published.
func TestMacOfKnownTexts(t *testing.T) {
	for _, c := range []struct{ key, text, digest string }{
		{"Jefe", "what do ya want for nothing?", "5bdcc146bf60754e6a042426089575c75a003f089d2739839dec58b964ec3843"},
		{"", "", "b613679a0814d9ec772f95d778c35fc5ff1697c493715653c6c712144292c5ad"},
		{"key", "The quick brown fox jumps over the lazy dog", "f7bc83f430538424b13298e6aa6fb143ef4d59a14946175997479dbc2d1a3cd8"},
		{strings.Repeat("\x0b", 20), "Hi There", "b0344c61d8db38535ca8afceaf0bf12b881dc200c9833da726e9376c2e32cff7"},
		{strings.Repeat("\xaa", 20), strings.Repeat("\xdd", 50), "773ea91e36800e46854db8ebd09181a72959098b3ef8c122d9635514ced565fe"},
		{strings.Repeat("\xaa", 131), "Test Using Larger Than Block-Size Key - Hash Key First", "60e431591ee0b67f0d8a26aacbf5b77f8e0bc6213728c5140546040f0ee37f54"},
		{strings.Repeat("\xaa", 131), "This is a test using a larger than block-size key and a larger than block-size data. The key needs to be hashed before being used by the HMAC algorithm.", "9b09ffa71b942fcb27635fbcd5b0e944bfdc63644f0713938a7f51535c3a35e2"},
	} {
		d := Mac([]byte(c.key), []byte(c.text))
		if got := hex.EncodeToString(d[:]); got != c.digest {
			t.Errorf("%d bytes of key, %q: %s, want %s", len(c.key), c.text, got, c.digest)
		}
	}
}

// 2.1: keys and texts of all the lengths, against the library and against the document's words.
func TestMacOfAllLengths(t *testing.T) {
	for k := range 200 {
		for _, n := range lengths() {
			got := Mac(text(k), text(n))
			if want := library(text(k), text(n)); got != want {
				t.Fatalf("%d bytes of key, %d of text: %x, want %x", k, n, got, want)
			}
			if want := inOwnWords(text(k), text(n)); got != want {
				t.Fatalf("%d bytes of key, %d of text: %x, in the document's words %x", k, n, got, want)
			}
		}
	}
}

// 2.1: a key of each byte alone, so that each bit of it is turned.
func TestMacOfEachByte(t *testing.T) {
	for x := range 256 {
		key := bytes.Repeat([]byte{byte(x)}, 64)
		if got, want := Mac(key, text(3)), library(key, text(3)); got != want {
			t.Errorf("key of bytes %02x: %x, want %x", x, got, want)
		}
	}
}

// 2.1: a long key and a long text.
func TestMacOfLongTexts(t *testing.T) {
	key, b := text(api.MaxBytes+1), text(api.MaxBytes+70)
	if got, want := Mac(key, b), library(key, b); got != want {
		t.Errorf("%x, want %x", got, want)
	}
}

// 2.1: noughts behind a key change nothing up to 64 bytes, and change all beyond.
func TestMacOfKeyWithNoughts(t *testing.T) {
	for _, n := range []int{0, 1, 32, 63, 64} {
		want := Mac(text(n), []byte("what"))
		for more := range 70 {
			key := append(text(n), make([]byte, more)...)
			if got := Mac(key, []byte("what")); (got == want) != (len(key) <= 64 || more == 0) {
				t.Fatalf("%d bytes of key, %d noughts behind: the same digest: %v", n, more, got == want)
			}
		}
	}
	if Mac([]byte{0, 1}) == Mac([]byte{1}) {
		t.Error("a nought ahead of a key changes nothing")
	}
}

// 2.1: a key of more than 64 bytes is as its digest, one of 64 bytes is not.
func TestMacOfKeyAsDigest(t *testing.T) {
	for _, n := range []int{0, 1, 32, 63, 64, 65, 66, 128, 1000} {
		d := sha.Sum(text(n))
		if same := Mac(text(n), []byte("what")) == Mac(d[:], []byte("what")); same != (n > 64) {
			t.Errorf("%d bytes of key: as its digest: %v", n, same)
		}
	}
}

// 2.1: no part at all, and parts without bytes.
func TestMacOfNoParts(t *testing.T) {
	for _, k := range lengths() {
		key := text(k)
		want := library(key, nil)
		for i, got := range []api.Digest{
			Mac(key), Mac(key, [][]byte{}...), Mac(key, nil), Mac(key, []byte{}), Mac(key, nil, []byte{}, nil), Mac(key, []byte("abc")[:0]),
		} {
			if got != want {
				t.Fatalf("%d bytes of key, form %d: %x, want %x", k, i, got, want)
			}
		}
	}
	if Mac(nil, text(3)) != Mac([]byte{}, text(3)) || Mac(nil, text(3)) != Mac([]byte("abc")[:0], text(3)) {
		t.Error("keys without bytes are not alike")
	}
}

// 2.1: a text in one part and in several is the same.
func TestMacOfParts(t *testing.T) {
	b := text(150)
	for _, k := range lengths() {
		want := Mac(text(k), b)
		for at := range len(b) + 1 {
			if Mac(text(k), b[:at], b[at:]) != want {
				t.Fatalf("%d bytes of key, cut at %d: not as in one part", k, at)
			}
		}
		for size := 1; size <= len(b); size += 7 {
			if Mac(text(k), cut(b, size)...) != want {
				t.Fatalf("%d bytes of key, in pieces of %d: not as in one part", k, size)
			}
		}
	}
}

// 2.1: parts stand in their order, and the key is not one of them.
func TestMacOfOrder(t *testing.T) {
	key, a, b := []byte("k"), []byte("a"), []byte("b")
	if Mac(key, a, b) == Mac(key, b, a) {
		t.Error("the order of parts changes nothing")
	}
	if Mac(key, a, b) == Mac(a, key, b) || Mac(nil, key, a) == Mac(key, a) {
		t.Error("the key is as a part")
	}
}

// 2.2: texts that are the same, and that differ in one bit of one byte.
func TestSame(t *testing.T) {
	for _, n := range []int{0, 1, 2, 31, 32, 33, 64, 255, 256, 257} {
		a, b := text(n), text(n)
		if !Same(a, b) || !Same(a, a) {
			t.Fatalf("%d bytes: not the same", n)
		}
		for i := range b {
			for bit := range 8 {
				b[i] ^= 1 << bit
				if Same(a, b) || Same(b, a) {
					t.Fatalf("%d bytes, bit %d of byte %d turned: the same", n, bit, i)
				}
				b[i] ^= 1 << bit
			}
		}
	}
}

// 2.2: texts that differ in more than one byte, also where the differences are alike.
func TestSameOfSeveralBytes(t *testing.T) {
	for _, c := range []struct{ a, b string }{
		{"ab", "ba"}, {"aa", "bb"}, {"abc", "acb"}, {"\x00\x00", "\x80\x80"}, {"\x01\x02", "\x02\x01"}, {"\xff\x00", "\x00\xff"},
	} {
		if Same([]byte(c.a), []byte(c.b)) || Same([]byte(c.b), []byte(c.a)) {
			t.Errorf("%q and %q: the same", c.a, c.b)
		}
	}
}

// 2.2: a text that begins another one is not the same, whatever stands behind it.
func TestSameOfBeginnings(t *testing.T) {
	for _, n := range []int{0, 1, 2, 32, 64} {
		for _, more := range []int{1, 2, 64, 255, 256, 257, 512, 65536, 1 << 20} {
			for _, tail := range [][]byte{make([]byte, more), text(more), bytes.Repeat([]byte{0xff}, more)} {
				a, b := text(n), append(text(n), tail...)
				if Same(a, b) || Same(b, a) {
					t.Fatalf("%d bytes, and %d more: the same", n, more)
				}
			}
		}
	}
}

// 2.2: texts without bytes are the same, nil or not.
func TestSameOfNothing(t *testing.T) {
	nothing := [][]byte{nil, {}, []byte("abc")[:0]}
	for _, a := range nothing {
		for _, b := range nothing {
			if !Same(a, b) {
				t.Errorf("%#v and %#v: not the same", a, b)
			}
		}
		if Same(a, []byte{0}) || Same([]byte{0}, a) {
			t.Errorf("%#v and a nought: the same", a)
		}
	}
}

// took is the shortest time of several calls of Same.
func took(a, b []byte) time.Duration {
	shortest := time.Hour
	for range 7 {
		start := time.Now()
		Same(a, b)
		shortest = min(shortest, time.Since(start))
	}
	return shortest
}

// 2.2: all bytes of the longer one are looked at, so that texts that part early take about as long as those that are the same.
func TestSameLooksAtAll(t *testing.T) {
	long := text(1 << 22)
	early := bytes.Clone(long)
	early[0]++
	whole := took(long, bytes.Clone(long))
	for i, c := range [][2][]byte{{long, early}, {early, long}, {long, nil}, {nil, long}, {long, long[:1]}, {early[:1], long}} {
		// One that stops early is thousands of times as quick.
		if d := took(c[0], c[1]); d < whole/100 {
			t.Errorf("pair %d: %v, and %v where all is the same", i, d, whole)
		}
	}
}

// 2.3: a digest that is the text's by that key, in whatever parts.
func TestCheck(t *testing.T) {
	for _, k := range lengths() {
		for _, n := range lengths() {
			key, b := text(k), text(n)
			d := library(key, b)
			if !Check(key, d, b) || !Check(key, d, b[:n/2], b[n/2:]) || !Check(key, d, cut(b, 5)...) {
				t.Fatalf("%d bytes of key, %d of text: not its digest", k, n)
			}
		}
		if d := library(text(k), nil); !Check(text(k), d) || !Check(text(k), d, nil) {
			t.Fatalf("%d bytes of key, no part: not its digest", k)
		}
	}
}

// 2.3: a digest with one bit turned is not the text's.
func TestCheckOfAnotherDigest(t *testing.T) {
	key, b := []byte("Jefe"), []byte("what do ya want for nothing?")
	d := library(key, b)
	for i := range d {
		for bit := range 8 {
			other := d
			other[i] ^= 1 << bit
			if Check(key, other, b) {
				t.Errorf("bit %d of byte %d turned: its digest", bit, i)
			}
		}
	}
	if Check(key, api.Digest{}, b) || Check(key, sha.Sum(b), b) || Check(nil, api.Digest{}) {
		t.Error("a digest that is none by that key: taken")
	}
}

// 2.3: another key, and another text.
func TestCheckOfAnotherText(t *testing.T) {
	key, b := []byte("Jefe"), []byte("what do ya want for nothing?")
	d := library(key, b)
	for _, other := range []string{"", "jefe", "Jef", "Jefe ", "eJef"} {
		if Check([]byte(other), d, b) {
			t.Errorf("by the key %q: its digest", other)
		}
	}
	for _, parts := range [][][]byte{nil, {nil}, {b[1:]}, {b[:27]}, {b, {0}}, {b, b}, {b[4:], b[:4]}} {
		if Check(key, d, parts...) {
			t.Errorf("of the parts %q: its digest", parts)
		}
	}
	if !Check(append(key, 0, 0), d, b) {
		t.Error("noughts behind a key change it")
	}
}

// R3: what is handed in is not changed, and what lies behind its length is neither read nor written.
func TestHandedInStays(t *testing.T) {
	for _, k := range lengths() {
		for _, n := range lengths() {
			key, b := roomy(text(k)), roomy(text(n))
			parts := append(make([][]byte, 0, 5), b[:n], b[:n/3])
			whole := append(text(n), text(n)[:n/3]...)
			wholeKey, wholeText := bytes.Clone(key), bytes.Clone(b)
			d := Mac(key[:k], parts...)
			if d != library(text(k), whole) || !Check(key[:k], d, parts...) || !Same(b[:n], text(n)) {
				t.Fatalf("%d bytes of key, %d of text: what lies behind was read", k, n)
			}
			if !bytes.Equal(key, wholeKey) || !bytes.Equal(b, wholeText) {
				t.Fatalf("%d bytes of key, %d of text: what was handed in has changed", k, n)
			}
			if len(parts[0]) != n || len(parts[1]) != n/3 || parts[:3][2] != nil {
				t.Fatalf("%d bytes of key, %d of text: the list of parts has changed", k, n)
			}
		}
	}
}

// roomy is b with bytes behind it that no call is to see.
func roomy(b []byte) []byte {
	return append(b, bytes.Repeat([]byte{0xcc}, 80)...)
}

// P7: what was asked ahead, and what becomes of it, changes no answer.
func TestNothingIsKept(t *testing.T) {
	key, b := text(64), text(100)
	want := Mac(key, b)
	clear(key)
	clear(b)
	Mac(key, b)
	if got := Mac(text(64), text(100)); got != want {
		t.Errorf("asked again: %x, want %x", got, want)
	}
	if got := Mac(key, b); got != library(make([]byte, 64), make([]byte, 100)) {
		t.Errorf("of what it is now: %x", got)
	}
}
