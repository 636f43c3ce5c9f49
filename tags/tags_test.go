package tags

import (
	"bytes"
	"crypto/hmac"
	"crypto/sha256"
	"encoding/binary"
	"encoding/hex"
	"math"
	"math/big"
	"strings"
	"testing"

	"blazon/api"
	"blazon/mac"
	"blazon/sha"
)

// digest is 32 bytes, the first one that, each of the others unlike its neighbours.
func digest(first byte) api.Digest {
	var d api.Digest
	for i := range d {
		d[i] = first + byte(i)
	}
	return d
}

// text is n bytes that begin with that one, none of them like its neighbours.
func text(n int, first byte) []byte {
	b := make([]byte, n)
	for i := range b {
		b[i] = first + byte(i*7)
	}
	return b
}

// numbers is numbers each byte of which is not nought in one of them, and the greatest.
func numbers() []uint64 {
	l := []uint64{0, 1, 2, 255, 256, 0x0102030405060708, 0xfedcba9876543210, 1 << 63, math.MaxUint64 - 1, math.MaxUint64}
	for i := range 64 {
		l = append(l, 1<<i)
	}
	return l
}

// lengths is how many bytes names and keys have: none, few, those at the limits and beyond them.
func lengths() []int {
	return []int{0, 1, 2, 8, 31, 32, 33, 63, 64, 65, 127, 128, 129, 255, 256, 257, 5000, 70000}
}

// joined is texts, one behind the other; a uint64 stands for its eight bytes.
func joined(parts ...any) []byte {
	var b []byte
	for _, p := range parts {
		switch p := p.(type) {
		case string:
			b = append(b, p...)
		case []byte:
			b = append(b, p...)
		case api.Digest:
			b = append(b, p[:]...)
		case uint64:
			b = binary.BigEndian.AppendUint64(b, p)
		case int:
			b = binary.BigEndian.AppendUint64(b, uint64(p))
		}
	}
	return b
}

// keyed is the keyed digest by the library's own HMAC.
func keyed(key, b []byte) api.Digest {
	h := hmac.New(sha256.New, key)
	h.Write(b)
	return api.Digest(h.Sum(nil))
}

// plain is the digest by the library's own SHA-256.
func plain(b []byte) api.Digest {
	return sha256.Sum256(b)
}

// want tells where bytes are not those that were asked for.
func want(t *testing.T, what string, got, asked []byte) {
	t.Helper()
	if !bytes.Equal(got, asked) {
		t.Errorf("%s: %x, want %x", what, got, asked)
	}
}

// 3.1: the chapter's example, and bytes written out.
func TestBytesWrittenOut(t *testing.T) {
	ones, twos, threes := strings.Repeat("\x01", 32), strings.Repeat("\x02", 32), strings.Repeat("\x03", 32)
	one, two, three := api.Digest([]byte(ones)), api.Digest([]byte(twos)), api.Digest([]byte(threes))
	if b := NodeBytes(one, two); len(b) != 65 || b[0] != 0x4e {
		t.Errorf("the chapter's example: %d bytes, the first one %x", len(b), b[0])
	}
	want(t, "empty", EmptyBytes(), []byte("E"))
	want(t, "leaf", LeafBytes(one, two), []byte("L"+ones+twos))
	want(t, "node", NodeBytes(one, two), []byte("N"+ones+twos))
	want(t, "value", ValueBytes(one, api.Binding{Name: "ann", Key: []byte("key"), Serial: 0x0102030405060708}),
		[]byte("V"+ones+"\x00\x00\x00\x00\x00\x00\x00\x03ann\x01\x02\x03\x04\x05\x06\x07\x08key"))
	want(t, "root", RootBytes(api.Root{Epoch: 0xfffefdfcfbfaf9f8, Prev: one, Tree: two, Next: three}),
		[]byte("R\xff\xfe\xfd\xfc\xfb\xfa\xf9\xf8"+ones+twos+threes))
}

// 3.1: leaves and nodes of many digests, each byte in its place.
func TestLeafAndNodeBytes(t *testing.T) {
	for i := range 256 {
		a, b := digest(byte(i)), digest(byte(i*3+100))
		want(t, "leaf", LeafBytes(a, b), joined("L", a, b))
		want(t, "node", NodeBytes(a, b), joined("N", a, b))
	}
	want(t, "leaf of noughts", LeafBytes(api.Digest{}, api.Digest{}), append([]byte("L"), make([]byte, 64)...))
	want(t, "node of noughts", NodeBytes(api.Digest{}, api.Digest{}), append([]byte("N"), make([]byte, 64)...))
}

// 3.1: names and keys of no byte and of many.
func TestValueBytesOfLengths(t *testing.T) {
	salt := digest(9)
	for _, n := range lengths() {
		for _, k := range lengths() {
			b := api.Binding{Name: string(text(n, 1)), Key: text(k, 2), Serial: 0x1122334455667788}
			if got, asked := ValueBytes(salt, b), joined("V", salt, n, b.Name, b.Serial, b.Key); !bytes.Equal(got, asked) {
				t.Fatalf("a name of %d bytes, a key of %d: %d bytes, want %d", n, k, len(got), len(asked))
			}
		}
	}
	nothing := joined("V", salt, 0, 0)
	want(t, "no name, a nil key", ValueBytes(salt, api.Binding{}), nothing)
	want(t, "no name, a key without bytes", ValueBytes(salt, api.Binding{Key: []byte{}}), nothing)
}

// 3.1: names and keys of any bytes: they are taken as they are, also where they are no UTF-8.
func TestValueBytesOfAnyBytes(t *testing.T) {
	for x := range 256 {
		b := api.Binding{Name: string([]byte{byte(x), 'n', byte(x)}), Key: []byte{byte(x), 0, byte(x)}, Serial: uint64(x)}
		want(t, "value", ValueBytes(digest(byte(x)), b), joined("V", digest(byte(x)), 3, b.Name, b.Serial, b.Key))
	}
}

// 3.1, 3.3: how many bytes a name has is told, not how many letters.
func TestNamesOfLetters(t *testing.T) {
	secret := digest(8)
	for name, n := range map[string]int{"Zoë": 4, "名": 3, "é": 2, "\xff\xfe": 2, "\u2028": 3, "😀a": 5} {
		want(t, name, ValueBytes(secret, api.Binding{Name: name, Key: []byte("é"), Serial: 2}), joined("V", secret, n, name, 2, "é"))
		if AuthOf([]byte("é"), name, 2, []byte("é")) != keyed([]byte("é"), joined("A", n, name, 2, "é")) {
			t.Errorf("auth of %q: not the keyed digest", name)
		}
		if IndexOf(secret, name) != keyed(secret[:], joined("I", name)) || SaltOf(secret, name, 2) != keyed(secret[:], joined("S", 2, name)) {
			t.Errorf("index, salt of %q: not the keyed digests", name)
		}
	}
}

// 3.1: numbers of which each byte is not nought, up to 2^64 - 1.
func TestBytesOfNumbers(t *testing.T) {
	for _, n := range numbers() {
		b := api.Binding{Name: "ann", Key: []byte("k"), Serial: n}
		want(t, "value", ValueBytes(digest(1), b), joined("V", digest(1), 3, "ann", n, "k"))
		r := api.Root{Epoch: n, Prev: digest(1), Tree: digest(50), Next: digest(99)}
		want(t, "root", RootBytes(r), joined("R", n, digest(1), digest(50), digest(99)))
	}
	want(t, "a root of noughts", RootBytes(api.Root{}), append([]byte("R"), make([]byte, 104)...))
}

// 3.2: the digest of bytes of any length, of a kind or of none.
func TestOf(t *testing.T) {
	for n := range 300 {
		if b := text(n, 5); Of(b) != plain(b) || Of(b) != sha.Sum(b) {
			t.Errorf("%d bytes: %x, want %x", n, Of(b), plain(b))
		}
	}
	if Of(nil) != plain(nil) || Of([]byte{}) != plain(nil) {
		t.Error("no bytes: not the digest of nothing")
	}
	if b := text(api.MaxBytes+1, 5); Of(b) != plain(b) {
		t.Errorf("%d bytes: not their digest", len(b))
	}
}

// 3.1 to 3.3: digests that another program worked out.
func TestKnownDigests(t *testing.T) {
	one := api.Digest(bytes.Repeat([]byte{1}, 32))
	two := api.Digest(bytes.Repeat([]byte{2}, 32))
	three := api.Digest(bytes.Repeat([]byte{3}, 32))
	for _, c := range []struct {
		what  string
		got   api.Digest
		asked string
	}{
		{"empty", Of(EmptyBytes()), "a9f51566bd6705f7ea6ad54bb9deb449f795582d6529a0e22207b8981233ec58"},
		{"leaf", Of(LeafBytes(one, two)), "6ce0c17a178e28e96dcafd461f493d99c85ba2fdc4fe0f58a14e88052d587bff"},
		{"node", Of(NodeBytes(one, two)), "555fcb62b431f08fee3528e84264da57764de8389b3bbbdf9c8847f21e9656d8"},
		{"value", Of(ValueBytes(one, api.Binding{Name: "ann", Key: []byte("k"), Serial: 1})), "875dd0d45d6968968fa74f5bbf42a39ca476d047ec70741adefef4dee168de92"},
		{"root", Of(RootBytes(api.Root{Epoch: 7, Prev: one, Tree: two, Next: three})), "d585ccd21438fa5a9b699d173184fc0696a72dcf4d34686737432810995e8da8"},
		{"index", IndexOf(digest(0), "ann"), "369c7f684373fd2f0b21bba38a4e714d3b0f401368b7683064ee0ac8aff63be5"},
		{"salt", SaltOf(digest(0), "ann", 1), "57d9e6f503d3f7ee46c23253eb02128f40bba6e73adee210189c691c2e0c6cc5"},
		{"key", KeyOf(digest(0), 5, 255, 1), "7fca9f9da329999be3e0b34de39c317b4efa76441df24289d086b4ea3859c5db"},
		{"auth", AuthOf([]byte("old"), "ann", 1, []byte("k")), "29739586801509f4d1de9ab4bdfd03fe0569378c4db159dcbadcd6953c1bb5c6"},
	} {
		if got := hex.EncodeToString(c.got[:]); got != c.asked {
			t.Errorf("%s: %s, want %s", c.what, got, c.asked)
		}
	}
}

// 3.3: names of no byte and of many, by several secrets.
func TestIndexOf(t *testing.T) {
	for i, n := range lengths() {
		for _, secret := range []api.Digest{{}, digest(byte(i)), digest(200)} {
			name := string(text(n, byte(i)))
			if got, asked := IndexOf(secret, name), keyed(secret[:], joined("I", name)); got != asked {
				t.Errorf("a name of %d bytes: %x, want %x", n, got, asked)
			}
			if got := IndexOf(secret, name); got != mac.Mac(secret[:], []byte("I"), []byte(name)) {
				t.Errorf("a name of %d bytes: %x is not mac's", n, got)
			}
		}
	}
}

// 3.3: names of no byte and of many, numbers up to 2^64 - 1.
func TestSaltOf(t *testing.T) {
	for i, n := range lengths() {
		for _, serial := range numbers() {
			secret, name := digest(byte(i)), string(text(n, 3))
			if got, asked := SaltOf(secret, name, serial), keyed(secret[:], joined("S", serial, name)); got != asked {
				t.Fatalf("a name of %d bytes, serial %d: %x, want %x", n, serial, got, asked)
			}
		}
	}
}

// place is 2 bit + side, modulo 2^64, by numbers that know no end.
func place(bit, side int) uint64 {
	n := new(big.Int).Mul(big.NewInt(2), big.NewInt(int64(bit)))
	n.Add(n, big.NewInt(int64(side)))
	return n.Mod(n, new(big.Int).Lsh(big.NewInt(1), 64)).Uint64()
}

// 3.3: each part of a key.
func TestKeyOfEachPart(t *testing.T) {
	secret := digest(77)
	for _, key := range numbers() {
		for _, bit := range []int{0, 1, 2, 127, 128, 254, 255} {
			for side := range 2 {
				asked := plain(joined("K", secret, key, uint64(2*bit+side)))
				if got := KeyOf(secret, key, bit, side); got != asked {
					t.Fatalf("key %d, bit %d, side %d: %x, want %x", key, bit, side, got, asked)
				}
			}
		}
	}
}

// 3.3: bits and sides below nought and beyond what there is: 2 bit + side is taken modulo 2^64.
func TestKeyOfAnyPlace(t *testing.T) {
	places := []int{0, 1, 2, 3, 255, 256, 257, 1 << 31, 1 << 32, 1 << 62, 1<<62 + 1, math.MaxInt - 1, math.MaxInt,
		-1, -2, -3, -256, -1 << 31, -1 << 32, -1 << 62, -1<<62 - 1, math.MinInt + 1, math.MinInt}
	for _, bit := range places {
		for _, side := range places {
			asked := plain(joined("K", digest(4), 6, place(bit, side)))
			if got := KeyOf(digest(4), 6, bit, side); got != asked {
				t.Errorf("bit %d, side %d: %x, want %x", bit, side, got, asked)
			}
		}
	}
	if KeyOf(digest(4), 6, 0, -1) != plain(joined("K", digest(4), 6, uint64(math.MaxUint64))) {
		t.Error("bit 0, side -1: not the number 2^64 - 1")
	}
	if KeyOf(digest(4), 6, 1, 0) != KeyOf(digest(4), 6, 0, 2) || KeyOf(digest(4), 6, math.MinInt, 5) != KeyOf(digest(4), 6, 0, 5) {
		t.Error("places of one number: unlike digests")
	}
}

// 3.3: old keys, names and keys of no byte and of many.
func TestAuthOfLengths(t *testing.T) {
	for _, o := range lengths() {
		for _, n := range []int{0, 1, 32, 33, 300} {
			for _, k := range []int{0, 1, 64, 65, 300} {
				old, name, key := text(o, 1), string(text(n, 2)), text(k, 3)
				asked := keyed(old, joined("A", n, name, uint64(0x8877665544332211), key))
				if got := AuthOf(old, name, 0x8877665544332211, key); got != asked {
					t.Fatalf("%d bytes of old key, %d of name, %d of key: %x, want %x", o, n, k, got, asked)
				}
			}
		}
	}
	for _, n := range []int{5000, 70000} {
		name, key := string(text(n, 2)), text(n, 3)
		if AuthOf([]byte("old"), name, 1, key) != keyed([]byte("old"), joined("A", n, name, 1, key)) {
			t.Errorf("a name and a key of %d bytes: not the keyed digest", n)
		}
	}
	if AuthOf(nil, "", 0, nil) != AuthOf([]byte{}, "", 0, []byte{}) || AuthOf(nil, "", 0, nil) != keyed(nil, joined("A", 0, 0)) {
		t.Error("nothing at all: not the keyed digest")
	}
}

// 3.3: numbers up to 2^64 - 1.
func TestAuthOfNumbers(t *testing.T) {
	for _, serial := range numbers() {
		asked := keyed([]byte("old"), joined("A", 3, "ann", serial, "new"))
		if got := AuthOf([]byte("old"), "ann", serial, []byte("new")); got != asked {
			t.Errorf("serial %d: %x, want %x", serial, got, asked)
		}
	}
}

// kindInWords is the kind of bytes with that sign and so many more, as the document says it.
func kindInWords(sign byte, more int) byte {
	switch {
	case sign == 'E' && more == 0,
		(sign == 'L' || sign == 'N') && more == 64,
		sign == 'R' && more == 104,
		sign == 'V' && more >= 48 && 1+more <= 1<<30:
		return sign
	}
	return 0
}

// 3.4: each first byte, with none behind it up to more than any kind of one length has.
func TestKindOfEachSignAndLength(t *testing.T) {
	for sign := range 256 {
		for more := range 300 {
			b := append([]byte{byte(sign)}, text(more, byte(sign+more))...)
			if got, asked := Kind(b), kindInWords(byte(sign), more); got != asked {
				t.Fatalf("%q and %d more: %q, want %q", byte(sign), more, got, asked)
			}
		}
	}
}

// 3.4: what the calls make is of its kind, with a byte less, a byte more or another sign it is not.
func TestKindOfWhatIsMade(t *testing.T) {
	least := api.Binding{}
	for _, c := range []struct {
		b          []byte
		kind       byte
		less, more byte // the kinds of b with a byte less and with one more
	}{
		{EmptyBytes(), 'E', 0, 0},
		{LeafBytes(digest(1), digest(2)), 'L', 0, 0},
		{NodeBytes(digest(1), digest(2)), 'N', 0, 0},
		{RootBytes(api.Root{Epoch: 1, Prev: digest(1), Tree: digest(2), Next: digest(3)}), 'R', 0, 0},
		{ValueBytes(digest(1), least), 'V', 0, 'V'},
		{ValueBytes(digest(1), api.Binding{Name: "a"}), 'V', 'V', 'V'},
		{ValueBytes(digest(1), api.Binding{Key: []byte("k")}), 'V', 'V', 'V'},
		{ValueBytes(digest(1), api.Binding{Name: string(text(5000, 1)), Key: text(api.MaxBytes, 1)}), 'V', 'V', 'V'},
	} {
		if Kind(c.b) != c.kind {
			t.Errorf("%q of %d bytes: kind %q", c.kind, len(c.b), Kind(c.b))
		}
		if got := Kind(c.b[:len(c.b)-1]); got != c.less {
			t.Errorf("%q of %d bytes, with a byte less: kind %q", c.kind, len(c.b), got)
		}
		if got := Kind(append(c.b, c.kind)); got != c.more {
			t.Errorf("%q of %d bytes, with a byte more: kind %q", c.kind, len(c.b), got)
		}
		for _, sign := range []byte("\x00AIKSelnrvX\xff") {
			c.b[0] = sign
			if Kind(c.b) != 0 {
				t.Errorf("%q of %d bytes, with the sign %q: kind %q", c.kind, len(c.b), sign, Kind(c.b))
			}
		}
	}
}

// 3.4: no bytes at all, and E with a byte behind it.
func TestKindOfFewBytes(t *testing.T) {
	for _, b := range [][]byte{nil, {}, []byte("E")[:0], []byte("EE"), []byte("E\x00"), []byte("EL"), []byte("LE"), []byte("L"), []byte("N"), []byte("R"), []byte("V"), {0}} {
		if Kind(b) != 0 {
			t.Errorf("%q: kind %q", b, Kind(b))
		}
	}
	if Kind([]byte("E")) != 'E' {
		t.Errorf("E alone: kind %q", Kind([]byte("E")))
	}
}

// 3.4: a value has 2^30 bytes at most, the sign among them.
func TestKindOfMostBytes(t *testing.T) {
	b := make([]byte, 1<<30+2)
	b[0] = 'V'
	for _, c := range []struct {
		n    int
		kind byte
	}{{1<<30 - 1, 'V'}, {1 << 30, 'V'}, {1<<30 + 1, 0}, {1<<30 + 2, 0}} {
		if got := Kind(b[:c.n]); got != c.kind {
			t.Errorf("V and %d more: kind %q", c.n-1, got)
		}
	}
	b[0] = 'R'
	if Kind(b) != 0 || Kind(b[:1<<30]) != 0 {
		t.Error("R and far too many more: a kind")
	}
}

// things is the bytes of things that differ from one another, most of them in one part alone.
func things() [][]byte {
	a, b, c := digest(1), digest(2), digest(3)
	var l [][]byte
	for _, d := range [][2]api.Digest{{a, b}, {b, a}, {a, a}, {b, b}, {a, c}, {c, b}, {}, {0: a}, {1: a}} {
		l = append(l, LeafBytes(d[0], d[1]), NodeBytes(d[0], d[1]))
	}
	for _, salt := range []api.Digest{a, b, {}} {
		for _, name := range []string{"", "a", "b", "ab", "ba", "abc", "a\x00", "\x00", "\x00\x00\x00\x00\x00\x00\x00\x01", "a\x00\x00\x00\x00\x00\x00\x00\x01"} {
			for _, serial := range []uint64{0, 1, 2, 256, 1 << 56, math.MaxUint64} {
				for _, key := range []string{"", "a", "b", "ab", "a\x00", "\x00", "\x00\x00\x00\x00\x00\x00\x00\x01", "\x00\x00\x00\x00\x00\x00\x00\x01a"} {
					l = append(l, ValueBytes(salt, api.Binding{Name: name, Key: []byte(key), Serial: serial}))
				}
			}
		}
	}
	for _, r := range []api.Root{
		{}, {Epoch: 1}, {Epoch: 1 << 56}, {Epoch: math.MaxUint64}, {Prev: a}, {Tree: a}, {Next: a},
		{Epoch: 1, Prev: a, Tree: b, Next: c}, {Epoch: 2, Prev: a, Tree: b, Next: c}, {Epoch: 1, Prev: b, Tree: a, Next: c},
		{Epoch: 1, Prev: a, Tree: c, Next: b}, {Epoch: 1, Prev: c, Tree: b, Next: a}, {Epoch: 1, Prev: a, Tree: b, Next: b},
	} {
		l = append(l, RootBytes(r))
	}
	return append(l, EmptyBytes())
}

// 3.5: unlike things have unlike bytes, and unlike digests.
func TestUnlikeThings(t *testing.T) {
	seen, digests := map[string]int{}, map[api.Digest]int{}
	for i, b := range things() {
		if j, ok := seen[string(b)]; ok {
			t.Errorf("things %d and %d: both %x", i, j, b)
		}
		if j, ok := digests[Of(b)]; ok {
			t.Errorf("things %d and %d: one digest", i, j)
		}
		seen[string(b)], digests[Of(b)] = i, i
	}
}

// 3.5: one bit turned in a part turns one bit in the bytes.
func TestEachBitIsSeen(t *testing.T) {
	for bit := range 256 {
		turned := digest(1)
		turned[bit/8] ^= 1 << (bit % 8)
		k := api.Binding{Name: "ann", Key: []byte("k"), Serial: 1}
		for i, pair := range [][2][]byte{
			{LeafBytes(digest(1), digest(1)), LeafBytes(turned, digest(1))},
			{LeafBytes(digest(1), digest(1)), LeafBytes(digest(1), turned)},
			{NodeBytes(digest(1), digest(1)), NodeBytes(turned, digest(1))},
			{NodeBytes(digest(1), digest(1)), NodeBytes(digest(1), turned)},
			{ValueBytes(digest(1), k), ValueBytes(turned, k)},
			{RootBytes(api.Root{Prev: digest(1)}), RootBytes(api.Root{Prev: turned})},
			{RootBytes(api.Root{Tree: digest(1)}), RootBytes(api.Root{Tree: turned})},
			{RootBytes(api.Root{Next: digest(1)}), RootBytes(api.Root{Next: turned})},
		} {
			if bytes.Equal(pair[0], pair[1]) {
				t.Errorf("pair %d, bit %d: the same bytes", i, bit)
			}
		}
		if IndexOf(digest(1), "ann") == IndexOf(turned, "ann") || SaltOf(digest(1), "ann", 1) == SaltOf(turned, "ann", 1) || KeyOf(digest(1), 1, 1, 1) == KeyOf(turned, 1, 1, 1) {
			t.Errorf("bit %d of a secret changes nothing", bit)
		}
	}
}

// 3.5: what is hashed by a key for one thing is hashed for no other, also where names are made to look like the rest of another thing.
func TestUnlikeKeyedThings(t *testing.T) {
	secret := digest(1)
	seen := map[api.Digest]string{}
	note := func(d api.Digest, what string) {
		if other, ok := seen[d]; ok {
			t.Errorf("%s and %s: one digest", what, other)
		}
		seen[d] = what
	}
	number := string(joined(1))
	for _, name := range []string{"", "a", "b", "ab", number, number + "a", number + number, number + "a" + number, number + "a" + number + "b", "S" + number, "A"} {
		note(IndexOf(secret, name), "index "+name)
		for _, serial := range []uint64{0, 1, 256, 1 << 56, math.MaxUint64} {
			what := name + " " + string(joined(serial))
			note(SaltOf(secret, name, serial), "salt "+what)
			for _, key := range []string{"", "a", "b", "ab", number, number + "a"} {
				note(AuthOf(secret[:], name, serial, []byte(key)), "auth "+what+" "+key)
			}
		}
	}
	for key := range uint64(4) {
		for bit := range 256 {
			for side := range 2 {
				note(KeyOf(secret, key, bit, side), "key "+string(joined(key, bit, side)))
			}
		}
	}
}

// 3.5: bytes of one kind are of no other, and of the kind that they are made for.
func TestBytesOfOneKind(t *testing.T) {
	signs := map[byte]int{}
	for i, b := range things() {
		if len(b) == 0 || Kind(b) != b[0] {
			t.Fatalf("thing %d: kind %q of %x", i, Kind(b), b)
		}
		signs[b[0]]++
		for _, sign := range []byte("ELNRV") {
			if sign == b[0] {
				continue
			}
			other := append([]byte{sign}, b[1:]...)
			if k := Kind(other); k != 0 && k != sign {
				t.Errorf("thing %d with the sign %q: kind %q", i, sign, k)
			}
		}
	}
	if len(signs) != 5 {
		t.Errorf("signs %v, want five", signs)
	}
}

// roomy is b, behind whose length lie bytes that no call is to see.
func roomy(b []byte) []byte {
	whole := append(bytes.Clone(b), bytes.Repeat([]byte{0xcc}, 100)...)
	return whole[:len(b)]
}

// R3: what is handed in stays as it was, and what lies behind its length is neither read nor written.
func TestHandedInStays(t *testing.T) {
	for _, n := range lengths() {
		old, key := roomy(text(n, 1)), roomy(text(n, 2))
		wholeOld, wholeKey := bytes.Clone(old[:n+100]), bytes.Clone(key[:n+100])
		v := ValueBytes(digest(1), api.Binding{Name: "ann", Key: key, Serial: 1})
		if !bytes.Equal(v, joined("V", digest(1), 3, "ann", 1, text(n, 2))) {
			t.Errorf("a key of %d bytes: what lies behind was read", n)
		}
		if AuthOf(old, "ann", 1, key) != keyed(text(n, 1), joined("A", 3, "ann", 1, text(n, 2))) || Of(old) != plain(text(n, 1)) {
			t.Errorf("%d bytes: what lies behind was read", n)
		}
		Kind(old)
		_ = append(v, 1, 2, 3)
		clear(v)
		if !bytes.Equal(old[:n+100], wholeOld) || !bytes.Equal(key[:n+100], wholeKey) {
			t.Errorf("%d bytes: what was handed in has changed", n)
		}
	}
	for _, b := range [][]byte{EmptyBytes(), NodeBytes(digest(1), digest(2)), RootBytes(api.Root{})} {
		if r := roomy(b); Kind(r) != b[0] || Kind(r[:len(b)+1]) != 0 || Kind(r[:len(b)-1]) != 0 {
			t.Errorf("%q: what lies behind changes its kind", b[0])
		}
	}
}

// R3: an answer is new memory, and its room ends with it.
func TestAnswersAreNew(t *testing.T) {
	for i, call := range []func() []byte{
		EmptyBytes,
		func() []byte { return LeafBytes(digest(1), digest(2)) },
		func() []byte { return NodeBytes(digest(1), digest(2)) },
		func() []byte { return ValueBytes(digest(1), api.Binding{Name: "ann", Key: []byte("k")}) },
		func() []byte { return ValueBytes(digest(1), api.Binding{Name: "ann", Key: text(1000, 1)}) },
		func() []byte { return RootBytes(api.Root{Epoch: 5}) },
	} {
		first, second := call(), call()
		asked := bytes.Clone(first)
		if cap(first) != len(first) {
			t.Errorf("answer %d: %d bytes, room for %d", i, len(first), cap(first))
		}
		clear(first)
		_ = append(first, 9, 9, 9)
		if !bytes.Equal(second, asked) || !bytes.Equal(call(), asked) {
			t.Errorf("answer %d: shares memory with another one", i)
		}
	}
}
