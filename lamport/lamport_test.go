package lamport

import (
	"bytes"
	"crypto/sha256"
	"encoding/binary"
	"encoding/hex"
	"fmt"
	"math"
	"slices"
	"strconv"
	"strings"
	"testing"

	"blazon/api"
	"blazon/path"
	"blazon/tags"
)

// filled is 32 bytes, all of them that one.
func filled(b byte) api.Digest {
	return api.Digest(bytes.Repeat([]byte{b}, 32))
}

// rising is 32 bytes, each one greater than the one ahead.
func rising() api.Digest {
	var d api.Digest
	for i := range d {
		d[i] = byte(i)
	}
	return d
}

// chance is a digest that is like chance, but the same one each time.
func chance(i int) api.Digest {
	return sha256.Sum256([]byte(strconv.Itoa(i)))
}

// owner is who signs: a seed, and the number of a key.
type owner struct {
	seed api.Digest
	key  uint64
}

// owners is seeds of several sorts, each with keys from 0 up to the greatest number.
func owners() []owner {
	var l []owner
	for _, seed := range []api.Digest{{}, {1}, {31: 1}, filled(0xff), rising(), chance(1)} {
		for _, key := range []uint64{0, 1, 2, 64, 255, 256, 1 << 31, 1 << 32, 1 << 63, math.MaxUint64 - 1, math.MaxUint64} {
			l = append(l, owner{seed, key})
		}
	}
	return l
}

// few is some of the owners, for what takes long.
func few() []owner {
	return []owner{{api.Digest{}, 0}, {api.Digest{1}, 1}, {rising(), math.MaxUint64}}
}

// texts is what is signed: nothing, few bytes and many, and some that are like chance.
func texts() [][]byte {
	l := [][]byte{nil, {}, {0}, []byte("a"), []byte("b"), []byte("abc"), make([]byte, 63), make([]byte, 64), make([]byte, 65),
		tags.RootBytes(api.Root{Epoch: 1, Tree: chance(2), Next: chance(3)}), make([]byte, api.SigBytes), bytes.Repeat([]byte("x"), api.MaxBytes+1)}
	for i := range 12 {
		d := chance(i)
		l = append(l, d[:])
	}
	return l
}

// digestOf is a digest by the library's own SHA-256.
func digestOf(b []byte) []byte {
	d := sha256.Sum256(b)
	return d[:]
}

// partOf is a key's part of a bit, as 3.3 says it, by the library.
func partOf(o owner, bit, side int) []byte {
	b := append([]byte("K"), o.seed[:]...)
	b = binary.BigEndian.AppendUint64(b, o.key)
	return digestOf(binary.BigEndian.AppendUint64(b, uint64(2*bit+side)))
}

// textOf is 10.1, word by word.
func textOf(o owner) []byte {
	b := []byte("P")
	for bit := range 256 {
		b = append(b, digestOf(partOf(o, bit, 0))...)
		b = append(b, digestOf(partOf(o, bit, 1))...)
	}
	return b
}

// digitsOf is the bits of the digest of b as the library writes bytes: 256 digits, each 0 or 1.
func digitsOf(b []byte) string {
	var s strings.Builder
	for _, x := range digestOf(b) {
		fmt.Fprintf(&s, "%08b", x)
	}
	return s.String()
}

// sigOf is 10.2, word by word.
func sigOf(o owner, b []byte) []byte {
	var sig []byte
	for bit, digit := range digitsOf(b) {
		if digit == '1' {
			sig = append(append(sig, partOf(o, bit, 1)...), digestOf(partOf(o, bit, 0))...)
		} else {
			sig = append(append(sig, partOf(o, bit, 0)...), digestOf(partOf(o, bit, 1))...)
		}
	}
	return sig
}

// openedOf is 10.3, word by word, of as many bytes as a signature has.
func openedOf(b, sig []byte) []byte {
	text := []byte("P")
	for bit, digit := range digitsOf(b) {
		first, others := sig[64*bit:64*bit+32], sig[64*bit+32:64*bit+64]
		if digit == '1' {
			text = append(append(text, others...), digestOf(first)...)
		} else {
			text = append(append(text, digestOf(first)...), others...)
		}
	}
	return text
}

// publicOf is a key's public digest.
func publicOf(o owner) api.Digest {
	return sha256.Sum256(textOf(o))
}

// like is n bytes that are like chance.
func like(seed, n int) []byte {
	var b []byte
	for i := 0; len(b) < n; i++ {
		d := sha256.Sum256([]byte(strconv.Itoa(seed) + " " + strconv.Itoa(i)))
		b = append(b, d[:]...)
	}
	return b[:n]
}

// mustBeSame is of bytes that must be those.
func mustBeSame(t *testing.T, name string, got, asked []byte) {
	t.Helper()
	if bytes.Equal(got, asked) {
		return
	}
	at := 0
	for at < len(got) && at < len(asked) && got[at] == asked[at] {
		at++
	}
	t.Errorf("%s: %d bytes, another one at %d; want %d bytes", name, len(got), at, len(asked))
}

// mustCheck is of a signature of which Check must tell that.
func mustCheck(t *testing.T, name string, public api.Digest, b, sig []byte, asked api.Errno) {
	t.Helper()
	if e := Check(public, b, sig); e != asked {
		t.Errorf("%s: %v, want %v", name, e, asked)
	}
}

// 10.3: the chapter's examples.
func TestExamples(t *testing.T) {
	text, e := Opened(nil, make([]byte, 16384))
	if e != api.OK || len(text) != 16385 || text[0] != 'P' {
		t.Errorf("nothing and 16384 noughts: %d bytes, %v", len(text), e)
	}
	if text, e := Opened(nil, nil); e != api.ErrBad || len(text) > 0 {
		t.Errorf("nothing and nothing: %d bytes, %v", len(text), e)
	}
}

// 10.1, 10.2: digests that another program worked out.
func TestKnownDigests(t *testing.T) {
	for _, c := range []struct {
		o                       owner
		public, nothing, signed string
	}{
		{owner{api.Digest{}, 0},
			"155453e2e3d530a9639437e87271e5ea785bdf3350383831c795182415c35437",
			"88ebc7411ff75ada9e45cf17e51b6535d67f8cfa476d23ad7737ed0c0d876613",
			"6ae8df096fb65cf94e9e2e113c74b15f72d0f7c799e2a5d1bcdd846328e4fbec"},
		{owner{api.Digest{1}, 1},
			"19f37676eea21c740e4411fdc71c68787d2b998af05d67e6cf7b0031254d156f",
			"295c76fa43ebd46b8a5d93e737317b61dea59ac86c5cc70c7b27d92e327ce7f4",
			"b1310889ba1046a4ec7fb068b1b5d7499ffe8e30fcce0bc175bef1c3c108ddc5"},
		{owner{rising(), math.MaxUint64},
			"0096dbbdf77f6092b13cfba1a4d13e0b5183eb42e7d41a37df0902a1b5e07f00",
			"d1bca67ac688aaa7d36de24310f87646adf39d5f4a676da07fe4e01a845cf51c",
			"9d3697dd47c3ea607e6e61092871a0ec236cc682526d9295c755e976e9d69dfe"},
	} {
		public := Public(c.o.seed, c.o.key)
		for asked, got := range map[string][]byte{
			c.public:  public[:],
			c.nothing: digestOf(Sign(c.o.seed, c.o.key, nil)),
			c.signed:  digestOf(Sign(c.o.seed, c.o.key, []byte("abc"))),
		} {
			if hex.EncodeToString(got) != asked {
				t.Errorf("key %d of %x: %x, want %s", c.o.key, c.o.seed, got, asked)
			}
		}
	}
	first := "50ec54fa18c29736b9c8f461183b1019a2edaef47413fa213e7120e8fa3f13d478cd6168c48aad7afa6800a607c430676236b8c02b692edf0117ff0e11ec6583aa"
	if got := hex.EncodeToString(Text(api.Digest{1}, 0)[:65]); got != first {
		t.Errorf("the text begins with %s, want %s", got, first)
	}
}

// 10.1: the byte P, and bit by bit the digests of both parts, 0 first; Public is the digest of that.
func TestTextAndPublic(t *testing.T) {
	for _, o := range owners() {
		name := fmt.Sprintf("key %d of %x", o.key, o.seed)
		text := Text(o.seed, o.key)
		if len(text) != 16385 || text[0] != 'P' {
			t.Fatalf("%s: %d bytes", name, len(text))
		}
		mustBeSame(t, name, text, textOf(o))
		if got := Public(o.seed, o.key); got != publicOf(o) || got != tags.Of(text) {
			t.Errorf("%s: the public digest is %x", name, got)
		}
	}
}

// 10.1: each part's digest stands at its place, as tags tells the part.
func TestTextPartByPart(t *testing.T) {
	for _, o := range few() {
		text := Text(o.seed, o.key)
		for bit := range 256 {
			for side := range 2 {
				part := tags.KeyOf(o.seed, o.key, bit, side)
				asked := tags.Of(part[:])
				at := 1 + 32*(2*bit+side)
				mustBeSame(t, fmt.Sprintf("bit %d, part %d", bit, side), text[at:at+32], asked[:])
			}
		}
	}
}

// 10.1: unlike seeds and unlike keys have unlike texts, no digest of which is in both, and unlike public digests.
func TestUnlikeKeys(t *testing.T) {
	all := owners()
	for i := range 64 {
		all = append(all, owner{rising(), 1<<i + 3}, owner{path.Set(chance(1), 4*i, !path.Bit(chance(1), 4*i)), 1})
	}
	parts, publics := map[string]owner{}, map[api.Digest]owner{}
	for _, o := range all {
		if other, ok := publics[Public(o.seed, o.key)]; ok {
			t.Errorf("one public digest: key %d of %x, key %d of %x", o.key, o.seed, other.key, other.seed)
		}
		publics[Public(o.seed, o.key)] = o
		for digest := range slices.Chunk(Text(o.seed, o.key)[1:], 32) {
			if other, ok := parts[string(digest)]; ok {
				t.Fatalf("one digest of a part: key %d of %x, key %d of %x", o.key, o.seed, other.key, other.seed)
			}
			parts[string(digest)] = o
		}
	}
}

// 10.2: bit by bit the part that the bit says, and the digest of the other one.
func TestSign(t *testing.T) {
	for _, o := range few() {
		for i, b := range texts() {
			sig := Sign(o.seed, o.key, b)
			if len(sig) != 16384 {
				t.Fatalf("text %d: %d bytes", i, len(sig))
			}
			mustBeSame(t, fmt.Sprintf("text %d, key %d", i, o.key), sig, sigOf(o, b))
		}
	}
	for _, o := range owners() {
		mustBeSame(t, fmt.Sprintf("key %d of %x", o.key, o.seed), Sign(o.seed, o.key, []byte("abc")), sigOf(o, []byte("abc")))
	}
}

// 10.2: nothing is signed as what it is, nil or without elements.
func TestSignNothing(t *testing.T) {
	for _, o := range few() {
		sig := Sign(o.seed, o.key, nil)
		mustBeSame(t, "nil", sig, sigOf(o, nil))
		mustBeSame(t, "without elements", Sign(o.seed, o.key, []byte{}), sig)
		mustCheck(t, "nil, as without elements", publicOf(o), []byte{}, sig, api.OK)
		mustCheck(t, "nil", publicOf(o), nil, sig, api.OK)
	}
}

// seen is how often each bit of a digest was on, in the texts that were tried.
func seen(l [][]byte) (on [256]int) {
	for _, b := range l {
		for bit, digit := range digitsOf(b) {
			on[bit] += int(digit - '0')
		}
	}
	return on
}

// 10.2, 10.4: of what signs, each bit's first 32 bytes are the key's own part, the others the digest of the part that is not told; each bit is tried on and off.
func TestSignTellsOneOfTwo(t *testing.T) {
	l := texts()
	for bit, n := range seen(l) {
		if n == 0 || n == len(l) {
			t.Fatalf("bit %d is on %d times of %d: too little is tried", bit, n, len(l))
		}
	}
	for _, o := range few() {
		for _, b := range l {
			sig := Sign(o.seed, o.key, b)
			for bit, on := range path.Bits(tags.Of(b)) {
				told, other := tags.KeyOf(o.seed, o.key, bit, 0), tags.KeyOf(o.seed, o.key, bit, 1)
				if on {
					told, other = other, told
				}
				digest := tags.Of(other[:])
				mustBeSame(t, fmt.Sprintf("bit %d, %v, the part", bit, on), sig[64*bit:64*bit+32], told[:])
				mustBeSame(t, fmt.Sprintf("bit %d, %v, the other one's digest", bit, on), sig[64*bit+32:64*bit+64], digest[:])
			}
		}
	}
}

// P4: a signature tells no part that it need not tell; one of another text tells some of these.
func TestSignTellsNoMore(t *testing.T) {
	for _, o := range few() {
		one, two := Sign(o.seed, o.key, []byte("a")), Sign(o.seed, o.key, []byte("b"))
		ones, twos := digitsOf([]byte("a")), digitsOf([]byte("b"))
		for bit := range 256 {
			secret := partOf(o, bit, int('1'-ones[bit]))
			if bytes.Contains(one, secret) {
				t.Errorf("bit %d: both parts are told", bit)
			}
			if bytes.Contains(two, secret) != (ones[bit] != twos[bit]) {
				t.Errorf("bit %d: the other part is told of another text, though the bit is the same, or not, though it is not", bit)
			}
		}
	}
}

// 10.3: what Sign tells is opened as what is hashed of the key.
func TestOpenedIsText(t *testing.T) {
	for _, o := range few() {
		for i, b := range texts() {
			text, e := Opened(b, Sign(o.seed, o.key, b))
			if e != api.OK {
				t.Fatalf("text %d: %v", i, e)
			}
			mustBeSame(t, fmt.Sprintf("text %d, key %d", i, o.key), text, Text(o.seed, o.key))
		}
	}
}

// 10.3: any 16384 bytes are opened by the words of the chapter, whoever made them.
func TestOpenedOfAnyBytes(t *testing.T) {
	sigs := [][]byte{make([]byte, 16384), bytes.Repeat([]byte{0xff}, 16384), bytes.Repeat([]byte("P"), 16384), like(1, 16384), like(2, 16384), Sign(chance(5), 5, []byte("other bytes"))}
	for i, sig := range sigs {
		for k, b := range texts() {
			text, e := Opened(b, sig)
			if e != api.OK || len(text) != 16385 || text[0] != 'P' {
				t.Fatalf("signature %d, text %d: %d bytes, %v", i, k, len(text), e)
			}
			mustBeSame(t, fmt.Sprintf("signature %d, text %d", i, k), text, openedOf(b, sig))
		}
	}
}

// 10.3: where the bit is off, the digest of the first 32 bytes stands first; where it is on, the others do.
func TestOpenedWhichStandsFirst(t *testing.T) {
	b, sig := []byte("abc"), like(3, 16384)
	text, e := Opened(b, sig)
	if e != api.OK {
		t.Fatal(e)
	}
	for bit, digit := range digitsOf(b) { // ba7816bf..: the first bits are 1, 0, 1, 1
		first, second := text[1+64*bit:33+64*bit], text[33+64*bit:65+64*bit]
		if digit == '1' {
			first, second = second, first
		}
		mustBeSame(t, fmt.Sprintf("bit %d, the digest of the first 32", bit), first, digestOf(sig[64*bit:64*bit+32]))
		mustBeSame(t, fmt.Sprintf("bit %d, the others", bit), second, sig[64*bit+32:64*bit+64])
	}
}

// 10.3, R2: of other lengths there is ErrBad, and nothing beside it, whatever the bytes are, and whatever lies behind their length.
func TestOpenedOfAnotherLength(t *testing.T) {
	o := owner{chance(1), 1}
	whole := append(Sign(o.seed, o.key, []byte("a")), like(4, 70000)...)
	for _, n := range []int{0, 1, 31, 32, 63, 64, 65, 256, 8192, 16320, 16352, 16382, 16383, 16385, 16386, 16416, 16448, 32768, 32769, 65536 + 16384, 86384} {
		for _, sig := range [][]byte{whole[:n], make([]byte, n)} {
			for _, b := range [][]byte{nil, []byte("a"), sig} {
				if text, e := Opened(b, sig); e != api.ErrBad || len(text) > 0 {
					t.Errorf("%d bytes: %d bytes, %v", n, len(text), e)
				}
				mustCheck(t, strconv.Itoa(n)+" bytes", publicOf(o), b, sig, api.ErrBad)
				mustCheck(t, strconv.Itoa(n)+" bytes, by the digest of nothing", tags.Of(nil), b, sig, api.ErrBad)
				mustCheck(t, strconv.Itoa(n)+" bytes, by noughts", api.Digest{}, b, sig, api.ErrBad)
			}
		}
	}
	mustCheck(t, "as many bytes as there must be", publicOf(o), []byte("a"), whole[:16384], api.OK)
}

// 10.3, 10.4: what signs is taken, by its own public digest; by no other.
func TestCheckOfWhatIsSigned(t *testing.T) {
	all := owners()
	for i, o := range all {
		b := texts()[i%len(texts())]
		sig := Sign(o.seed, o.key, b)
		public := Public(o.seed, o.key)
		mustCheck(t, fmt.Sprintf("key %d of %x", o.key, o.seed), public, b, sig, api.OK)
		next := all[(i+1)%len(all)]
		for name, other := range map[string]api.Digest{
			"the next owner's":           Public(next.seed, next.key),
			"the next key's":             Public(o.seed, o.key+1),
			"noughts":                    {},
			"the digest of what is told": tags.Of(sig),
			"the digest of the bytes":    tags.Of(b),
			"the seed":                   o.seed,
		} {
			mustCheck(t, "by "+name, other, b, sig, api.ErrBad)
		}
	}
	o := few()[2]
	for _, b := range texts() {
		mustCheck(t, "what is signed", publicOf(o), b, Sign(o.seed, o.key, b), api.OK)
		mustCheck(t, "what is signed, word by word", publicOf(o), b, sigOf(o, b), api.OK)
	}
}

// 10.3: a public digest of which any bit is another one takes nothing.
func TestCheckByEachBit(t *testing.T) {
	o, b := few()[1], []byte("a")
	sig := Sign(o.seed, o.key, b)
	for bit := range 256 {
		public := publicOf(o)
		public[bit/8] ^= 1 << (bit % 8)
		mustCheck(t, "bit "+strconv.Itoa(bit), public, b, sig, api.ErrBad)
	}
}

// 10.3: by whatever digest opens, it is taken: nobody need know a seed.
func TestCheckWithoutSeed(t *testing.T) {
	for i, sig := range [][]byte{make([]byte, 16384), like(6, 16384)} {
		for k, b := range texts() {
			public := api.Digest(sha256.Sum256(openedOf(b, sig)))
			mustCheck(t, fmt.Sprintf("signature %d, text %d", i, k), public, b, sig, api.OK)
			mustCheck(t, fmt.Sprintf("signature %d, a byte behind text %d", i, k), public, append(bytes.Clone(b), 0), sig, api.ErrBad)
		}
	}
}

// 10.3: a signature is of those bytes alone, however few tell them apart from others.
func TestCheckOfOtherBytes(t *testing.T) {
	for _, o := range few() {
		for i, b := range texts()[3:10] {
			sig := Sign(o.seed, o.key, b)
			others := map[string][]byte{
				"nothing":       nil,
				"a nought more": append(bytes.Clone(b), 0),
				"a byte fewer":  b[:len(b)-1],
				"a byte ahead":  append([]byte{0}, b...),
				"its digest":    digestOf(b),
				"the signature": sig,
				"the last bit":  append(bytes.Clone(b[:len(b)-1]), b[len(b)-1]^1),
				"the first bit": append([]byte{b[0] ^ 0x80}, b[1:]...),
			}
			for name, other := range others {
				mustCheck(t, fmt.Sprintf("text %d, %s", i, name), publicOf(o), other, sig, api.ErrBad)
			}
		}
	}
}

// 10.3, 10.4: a signature of which any byte is another one is refused: the first and the last one of each half of each bit, and one between.
func TestCheckOfAnotherByte(t *testing.T) {
	o, b := few()[1], []byte("a")
	sig := Sign(o.seed, o.key, b)
	for half := range 512 {
		for _, at := range []int{32 * half, 32*half + 1 + half%30, 32*half + 31} {
			was := sig[at]
			sig[at] ^= 1 << (half % 8)
			mustCheck(t, "byte "+strconv.Itoa(at), publicOf(o), b, sig, api.ErrBad)
			if text, e := Opened(b, sig); e != api.OK || bytes.Equal(text, textOf(o)) {
				t.Errorf("byte %d: opened as the key's text, or not at all: %v", at, e)
			}
			sig[at] = was
		}
	}
	mustCheck(t, "as it was", publicOf(o), b, sig, api.OK)
}

// forged is signatures of b by an owner's key of which one bit's 64 bytes are not what they must be.
func forged(o owner, b []byte, bit int) map[string][]byte {
	side := int(digitsOf(b)[bit] - '0')
	part, other := partOf(o, bit, side), partOf(o, bit, 1-side)
	next := owner{o.seed, o.key + 1}
	beside := (bit + 1) % 256
	l := map[string][2][]byte{
		"halves in the other order":              {digestOf(other), part},
		"the other part":                         {other, digestOf(part)},
		"the part's digest":                      {digestOf(part), digestOf(other)},
		"both parts":                             {part, other},
		"both digests":                           {digestOf(part), digestOf(part)},
		"the part alone":                         {part, make([]byte, 32)},
		"no part":                                {make([]byte, 32), digestOf(other)},
		"the next key's part":                    {partOf(next, bit, side), digestOf(other)},
		"the next key's other part":              {part, digestOf(partOf(next, bit, 1-side))},
		"the part of the bit beside":             {partOf(o, beside, side), digestOf(other)},
		"the other part's digest beside":         {part, digestOf(partOf(o, beside, 1-side))},
		"the other part's digest, and a part":    {other, digestOf(other)},
		"the part, and its own digest behind it": {part, digestOf(part)},
	}
	sigs := map[string][]byte{}
	for name, halves := range l {
		sig := sigOf(o, b)
		copy(sig[64*bit:], slices.Concat(halves[0], halves[1]))
		sigs[name] = sig
	}
	return sigs
}

// 10.4: who does not tell, of one bit alone, a text of the digest of the key's own part, and the other one's digest, has not signed.
func TestCheckOfForged(t *testing.T) {
	o := few()[1]
	for bit := range 256 {
		b := []byte(strconv.Itoa(bit % 7))
		for name, sig := range forged(o, b, bit) {
			mustCheck(t, fmt.Sprintf("bit %d, %s", bit, name), publicOf(o), b, sig, api.ErrBad)
		}
	}
}

// 10.4: a signature whose bits stand in another order, or that is another key's, or another text's, is none.
func TestCheckOfAnotherOrder(t *testing.T) {
	o, b := few()[2], []byte("abc")
	sig := Sign(o.seed, o.key, b)
	turned := bytes.Clone(sig)
	slices.Reverse(turned)
	swapped := slices.Concat(sig[64:128], sig[:64], sig[128:])
	for name, other := range map[string][]byte{
		"turned round":             turned,
		"two bits swapped":         swapped,
		"all moved on by a bit":    slices.Concat(sig[64:], sig[:64]),
		"all moved on by a half":   slices.Concat(sig[32:], sig[:32]),
		"all moved on by a byte":   slices.Concat(sig[1:], sig[:1]),
		"the next key's":           Sign(o.seed, o.key+1, b),
		"another seed's":           Sign(chance(9), o.key, b),
		"another text's":           Sign(o.seed, o.key, []byte("abd")),
		"the public text":          Text(o.seed, o.key)[1:],
		"the public text's begin":  Text(o.seed, o.key)[:16384],
		"a signature and one more": append(bytes.Clone(sig), sig...),
	} {
		mustCheck(t, name, publicOf(o), b, other, api.ErrBad)
	}
	mustCheck(t, "itself", publicOf(o), b, sig, api.OK)
}

// 10.4: of whatever Check takes, each bit's first 32 bytes have the digest of the key's own part.
func TestTakenTellsTheParts(t *testing.T) {
	for _, o := range few() {
		public := publicOf(o)
		taken, refused := 0, 0
		for _, b := range texts() {
			for _, signed := range texts() {
				sig := Sign(o.seed, o.key, signed)
				if Check(public, b, sig) != api.OK {
					refused++
					continue
				}
				taken++
				for bit, digit := range digitsOf(b) {
					if !bytes.Equal(digestOf(sig[64*bit:64*bit+32]), digestOf(partOf(o, bit, int(digit-'0')))) {
						t.Errorf("bit %d is taken, though it is not the key's part", bit)
					}
				}
			}
		}
		if asked := len(texts()) + 2; taken != asked || refused != len(texts())*len(texts())-asked { // nil and no elements are the same
			t.Errorf("%d are taken, %d are not", taken, refused)
		}
	}
}

// behind is bytes that have room behind their length, with bytes in it, and all of these.
func behind(b []byte) (all, front []byte) {
	all = slices.Concat(b, like(7, 100))
	return all, all[:len(b)]
}

// R3: what is handed in stays as it was, and what lies behind its length is neither read nor written.
func TestHandedInStays(t *testing.T) {
	o := few()[2]
	for i, b := range texts() {
		wholeB, b := behind(b)
		wholeSig, sig := behind(sigOf(o, b))
		wasB, wasSig := bytes.Clone(wholeB), bytes.Clone(wholeSig)
		mustBeSame(t, fmt.Sprintf("text %d, signed", i), Sign(o.seed, o.key, b), sigOf(o, b))
		text, _ := Opened(b, sig)
		mustBeSame(t, fmt.Sprintf("text %d, opened", i), text, textOf(o))
		mustCheck(t, fmt.Sprintf("text %d", i), publicOf(o), b, sig, api.OK)
		mustCheck(t, fmt.Sprintf("text %d, by another digest", i), chance(1), b, sig, api.ErrBad)
		mustCheck(t, fmt.Sprintf("text %d, a byte too few", i), publicOf(o), b, sig[:16383], api.ErrBad)
		if !bytes.Equal(wholeB, wasB) || !bytes.Equal(wholeSig, wasSig) {
			t.Errorf("text %d: what was handed in is another one", i)
		}
	}
}

// R3: what is told is new memory: it shares none with what was handed in, nor with what is told at another time.
func TestNewMemory(t *testing.T) {
	o, b := few()[1], []byte("abc")
	sig := Sign(o.seed, o.key, b)
	for name, call := range map[string]func() []byte{
		"Text":   func() []byte { return Text(o.seed, o.key) },
		"Sign":   func() []byte { return Sign(o.seed, o.key, b) },
		"Opened": func() []byte { text, _ := Opened(b, sig); return text },
	} {
		first, second := call(), call()
		was := bytes.Clone(first)
		_ = append(first, "behind it"...)
		clear(first[:cap(first)])
		mustBeSame(t, name+", told ahead of that", second, was)
		mustBeSame(t, name+", told again", call(), was)
	}
	mustBeSame(t, "the signature", sig, sigOf(o, b))
	text, _ := Opened(b, sig)
	clear(sig)
	mustBeSame(t, "opened ahead of that", text, textOf(o))
}

// R3: the bytes and their signature may lie in one memory.
func TestBytesThatOverlap(t *testing.T) {
	o := few()[0]
	room := like(8, 16384+64)
	b, sig := room[:100], room[64:]
	was := bytes.Clone(room)
	text, e := Opened(b, sig)
	if e != api.OK {
		t.Fatal(e)
	}
	mustBeSame(t, "opened", text, openedOf(was[:100], was[64:]))
	mustCheck(t, "by its digest", tags.Of(text), b, sig, api.OK)
	mustCheck(t, "the signature of itself", publicOf(o), sig, sig, api.ErrBad)
	mustBeSame(t, "what was handed in", room, was)
}

// P7: what is told is told again, whatever was asked for between.
func TestAlike(t *testing.T) {
	o, b := few()[2], []byte("abc")
	text, sig := Text(o.seed, o.key), Sign(o.seed, o.key, b)
	for _, other := range owners() {
		Public(other.seed, other.key)
		Opened(nil, Sign(other.seed, other.key, nil))
	}
	mustBeSame(t, "Text", Text(o.seed, o.key), text)
	mustBeSame(t, "Sign", Sign(o.seed, o.key, b), sig)
	opened, e := Opened(b, sig)
	if e != api.OK || Public(o.seed, o.key) != tags.Of(text) {
		t.Errorf("told twice, unlike: %v", e)
	}
	mustBeSame(t, "Opened", opened, text)
	mustCheck(t, "signed ahead of that", Public(o.seed, o.key), b, sig, api.OK)
}
