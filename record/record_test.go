package record

import (
	"bytes"
	"encoding/binary"
	"math"
	"reflect"
	"slices"
	"strings"
	"testing"

	"blazon/api"
)

// What a name may have, written out.
const nameBytes = "abcdefghijklmnopqrstuvwxyz0123456789.-"

// text is n bytes, none of them like its neighbours.
func text(n int) []byte {
	b := make([]byte, n)
	for i := range b {
		b[i] = byte(i*7 + 1)
	}
	return b
}

// name is n bytes that names have, none of them like its neighbours.
func name(n int) string {
	var b []byte
	for i := range n {
		b = append(b, nameBytes[i*7%len(nameBytes)])
	}
	return string(b)
}

// digest is 32 bytes, the first one that, each of the others unlike its neighbours.
func digest(first byte) api.Digest {
	var d api.Digest
	for i := range d {
		d[i] = first + byte(i)
	}
	return d
}

// digests is n digests, none of them like another one of 256 that follow each other.
func digests(n int) []api.Digest {
	var l []api.Digest
	for i := range n {
		l = append(l, digest(byte(i)))
	}
	return l
}

// The bytes of each thing in the document's words, numbers as the library writes such.

func numBytes(n uint64) []byte { return binary.AppendUvarint(nil, n) }

func textBytes(x []byte) []byte { return append(numBytes(uint64(len(x))), x...) }

func bindingBytes(b api.Binding) []byte {
	return slices.Concat(textBytes([]byte(b.Name)), textBytes(b.Key), numBytes(b.Serial))
}

func requestBytes(q api.Request) []byte {
	b := slices.Concat(numBytes(uint64(int64(q.Kind))), textBytes([]byte(q.Name)), textBytes(q.Key))
	if q.Kind == 2 {
		b = append(b, q.Auth[:]...)
	}
	return b
}

func signedBytes(s api.Signed) []byte {
	return slices.Concat(numBytes(s.Root.Epoch), s.Root.Prev[:], s.Root.Tree[:], s.Root.Next[:], textBytes(s.Sig))
}

func proofBytes(p api.Proof) []byte {
	b := numBytes(uint64(len(p.Sides)))
	for _, d := range p.Sides {
		b = append(b, d[:]...)
	}
	b = append(b, numBytes(uint64(int64(p.End)))...)
	if p.End == 1 {
		b = slices.Concat(b, p.Index[:], p.Value[:])
	}
	return b
}

// What may be, in the document's words.

func nameMayBe(s string) bool {
	return s != "" && len(s) <= 32 && strings.Trim(s, nameBytes) == "" // Trim takes whatever is in nameBytes from both ends, so all of it
}

func keyMayBe(k []byte) bool { return len(k) >= 1 && len(k) <= 64 }

func bindingMayBe(b api.Binding) bool { return nameMayBe(b.Name) && keyMayBe(b.Key) }

func requestMayBe(q api.Request) bool {
	switch q.Kind {
	case 1:
		return nameMayBe(q.Name) && keyMayBe(q.Key) && q.Auth == api.Digest{}
	case 2:
		return nameMayBe(q.Name) && keyMayBe(q.Key)
	}
	return false
}

func signedMayBe(s api.Signed) bool { return len(s.Sig) <= 1<<20 }

func proofMayBe(p api.Proof) bool {
	if len(p.Sides) > 256 {
		return false
	}
	switch p.End {
	case 0:
		return p.Index == api.Digest{} && p.Value == api.Digest{}
	case 1:
		return true
	}
	return false
}

// What of bytes is what, in the document's words: as far as ok holds, rest is what is left.
type words struct {
	rest []byte
	ok   bool
}

func (w *words) num() uint64 {
	n, size := binary.Uvarint(w.rest)
	if size <= 0 || !bytes.Equal(numBytes(n), w.rest[:size]) {
		w.ok, w.rest = false, nil
		return 0
	}
	w.rest = w.rest[size:]
	return n
}

func (w *words) take(n uint64) []byte {
	if n > uint64(len(w.rest)) {
		w.ok, w.rest = false, nil
		return nil
	}
	b := w.rest[:n]
	w.rest = w.rest[n:]
	return b
}

func (w *words) text() []byte { return w.take(w.num()) }

func (w *words) digest() (d api.Digest) {
	copy(d[:], w.take(32))
	return d
}

func parseBinding(b []byte) (x api.Binding, ok bool) {
	w := words{b, true}
	x.Name = string(w.text())
	x.Key = w.text()
	x.Serial = w.num()
	return x, w.ok && len(w.rest) == 0 && bindingMayBe(x)
}

func parseRequest(b []byte) (q api.Request, ok bool) {
	w := words{b, true}
	kind := w.num()
	if kind != 1 && kind != 2 {
		return q, false
	}
	q.Kind = int(kind)
	q.Name = string(w.text())
	q.Key = w.text()
	if kind == 2 {
		q.Auth = w.digest()
	}
	return q, w.ok && len(w.rest) == 0 && requestMayBe(q)
}

func parseSigned(b []byte) (s api.Signed, ok bool) {
	w := words{b, true}
	s.Root.Epoch = w.num()
	s.Root.Prev = w.digest()
	s.Root.Tree = w.digest()
	s.Root.Next = w.digest()
	s.Sig = w.text()
	return s, w.ok && len(w.rest) == 0 && signedMayBe(s)
}

func parseProof(b []byte) (p api.Proof, ok bool) {
	w := words{b, true}
	count := w.num()
	if count > 256 {
		return p, false
	}
	for range count {
		p.Sides = append(p.Sides, w.digest())
	}
	end := w.num()
	if end > 1 {
		return p, false
	}
	if p.End = int(end); end == 1 {
		p.Index = w.digest()
		p.Value = w.digest()
	}
	return p, w.ok && len(w.rest) == 0 && proofMayBe(p)
}

// Whether two things are the same: lists that are nil and such without elements are.

func sameBinding(a, b api.Binding) bool {
	return a.Name == b.Name && bytes.Equal(a.Key, b.Key) && a.Serial == b.Serial
}

func sameRequest(a, b api.Request) bool {
	return a.Kind == b.Kind && a.Name == b.Name && bytes.Equal(a.Key, b.Key) && a.Auth == b.Auth
}

func sameSigned(a, b api.Signed) bool { return a.Root == b.Root && bytes.Equal(a.Sig, b.Sig) }

func sameProof(a, b api.Proof) bool {
	return slices.Equal(a.Sides, b.Sides) && a.End == b.End && a.Index == b.Index && a.Value == b.Value
}

// kind is one of the four kinds of things: what the package does with it, and the document's words for the same.
type kind[T any] struct {
	what   string
	things []T
	write  func(T) []byte
	read   func([]byte) (T, api.Errno)
	words  func(T) []byte
	mayBe  func(T) bool
	parse  func([]byte) (T, bool)
	same   func(a, b T) bool
}

// everyKind does a test with each kind of things.
func everyKind(f func(binding kind[api.Binding], request kind[api.Request], signed kind[api.Signed], proof kind[api.Proof])) {
	f(kind[api.Binding]{"binding", bindings(), Binding, ReadBinding, bindingBytes, bindingMayBe, parseBinding, sameBinding},
		kind[api.Request]{"request", requests(), Request, ReadRequest, requestBytes, requestMayBe, parseRequest, sameRequest},
		kind[api.Signed]{"signed root", signeds(), Signed, ReadSigned, signedBytes, signedMayBe, parseSigned, sameSigned},
		kind[api.Proof]{"proof", proofs(), Proof, ReadProof, proofBytes, proofMayBe, parseProof, sameProof})
}

// names is names and texts that are none: each length around the edges, each byte alone, first, last and in the middle.
func names() []string {
	l := []string{"ann", "Ann", "aNn", "bob", "a.b-c", "0", "-", ".", "--", "..", "an n", "an_n", "ann\x00", "\x00", "\x00ann", "ann\n", "é", "anné", "a\xff", "ａnn", "٣", "ß"}
	for _, n := range []int{0, 1, 2, 31, 32, 33, 34, 64, 127, 128, 1000} {
		l = append(l, name(n))
	}
	for c := range 256 {
		one := string([]byte{byte(c)})
		l = append(l, one, one+"bc", "a"+one+"c", "ab"+one, name(31)+one, one+name(31), name(15)+one+name(16), name(32)+one)
	}
	return l
}

// keys is keys and texts that are none: each length around the edges, each byte.
func keys() [][]byte {
	l := [][]byte{nil, {}}
	for _, n := range []int{1, 2, 32, 63, 64, 65, 66, 127, 128, 1000} {
		l = append(l, text(n), make([]byte, n), bytes.Repeat([]byte{0xff}, n))
	}
	for c := range 256 {
		l = append(l, []byte{byte(c)})
	}
	return l
}

// serials is the edges that numbers have.
func serials() []uint64 {
	return []uint64{0, 1, 2, 127, 128, 255, 256, 16383, 16384, 1 << 31, 1 << 32, 1<<63 - 1, 1 << 63, math.MaxUint64 - 1, math.MaxUint64}
}

// numbers is kinds and ends: those that may be, those beside them, and those whose lowest bits are such.
func numbers() []int {
	return []int{0, 1, 2, 3, 4, 127, 128, 129, 256, 257, 258, 1<<32 + 1, 1<<32 + 2, math.MaxInt, -1, -2, -3, -127, -128, -255, -256, math.MinInt, math.MinInt + 1, math.MinInt + 2}
}

// bindings is bindings that may be, and such that may not.
func bindings() []api.Binding {
	var l []api.Binding
	for _, s := range names() {
		l = append(l, api.Binding{Name: s, Key: []byte("k"), Serial: 1})
	}
	for _, k := range keys() {
		l = append(l, api.Binding{Name: "ann", Key: k, Serial: 1}, api.Binding{Name: "Ann", Key: k, Serial: 1})
	}
	for _, n := range serials() {
		l = append(l, api.Binding{Name: name(32), Key: text(64), Serial: n}, api.Binding{Serial: n})
	}
	return append(l, api.Binding{Name: "ab", Key: []byte("c")}, api.Binding{Name: "a", Key: []byte("bc")})
}

// requests is requests that may be, and such that may not.
func requests() []api.Request {
	var l []api.Request
	for _, kind := range numbers() {
		for _, auth := range []api.Digest{{}, digest(9), {31: 1}, {0: 1}} {
			l = append(l, api.Request{Kind: kind, Name: "ann", Key: []byte("k"), Auth: auth}, api.Request{Kind: kind, Auth: auth})
		}
	}
	for kind := 1; kind <= 2; kind++ {
		for _, s := range names() {
			l = append(l, api.Request{Kind: kind, Name: s, Key: []byte("k")})
		}
		for _, k := range keys() {
			l = append(l, api.Request{Kind: kind, Name: "ann", Key: k}, api.Request{Kind: kind, Name: "Ann", Key: k})
		}
		l = append(l, api.Request{Kind: kind, Name: "ab", Key: []byte("c")}, api.Request{Kind: kind, Name: "a", Key: []byte("bc")})
		l = append(l, api.Request{Kind: kind, Name: name(32), Key: text(64)}, api.Request{Kind: kind, Name: name(32), Key: text(64), Auth: digest(200)})
	}
	return l
}

// signeds is signed roots whose Sig can be read, and such whose Sig can't.
func signeds() []api.Signed {
	var l []api.Signed
	for _, n := range serials() {
		l = append(l, api.Signed{Root: api.Root{Epoch: n, Prev: digest(1), Tree: digest(2), Next: digest(3)}, Sig: []byte("s")}, api.Signed{Root: api.Root{Epoch: n}})
	}
	for _, n := range []int{1, 2, 127, 128, 16383, api.SigBytes, 1<<20 - 1, 1 << 20, 1<<20 + 1, 1 << 21} {
		l = append(l, api.Signed{Root: api.Root{Epoch: 7, Prev: digest(60), Tree: digest(70), Next: digest(80)}, Sig: text(n)})
	}
	one := api.Digest{31: 1}
	return append(l, api.Signed{Root: api.Root{Prev: one}}, api.Signed{Root: api.Root{Tree: one}}, api.Signed{Root: api.Root{Next: one}}, api.Signed{Sig: []byte{}}, api.Signed{Sig: []byte{0}})
}

// proofs is proofs that may be, and such that may not.
func proofs() []api.Proof {
	var l []api.Proof
	for _, n := range []int{0, 1, 2, 127, 128, 255, 256, 257, 258, 300, 1000} {
		l = append(l, api.Proof{Sides: digests(n)}, api.Proof{Sides: digests(n), End: 1, Index: digest(50), Value: digest(90)}, api.Proof{Sides: digests(n), End: 2})
	}
	one := api.Digest{31: 1}
	for _, end := range numbers() {
		for _, sides := range [][]api.Digest{nil, {}, {{}}, digests(3)} {
			l = append(l, api.Proof{Sides: sides, End: end}, api.Proof{Sides: sides, End: end, Index: digest(4), Value: digest(5)},
				api.Proof{Sides: sides, End: end, Index: one}, api.Proof{Sides: sides, End: end, Value: one})
		}
	}
	return l
}

// want tells where bytes are not those that were asked for.
func want(t *testing.T, what string, got, asked []byte) {
	t.Helper()
	if !bytes.Equal(got, asked) {
		t.Errorf("%s: %x, want %x", what, got, asked)
	}
}

// 5.1: the chapter's example, and names and keys at each edge, with the error that is named first.
func TestCheck(t *testing.T) {
	for _, c := range []struct {
		name  string
		key   string
		asked api.Errno
	}{
		{"ann", "k", api.OK},
		{"Ann", "k", api.ErrName},
		{"", "k", api.ErrName},
		{"a", "k", api.OK},
		{strings.Repeat("z", 32), "k", api.OK},
		{strings.Repeat("z", 33), "k", api.ErrName},
		{"az09.-", "k", api.OK},
		{"a`", "k", api.ErrName},
		{"a{", "k", api.ErrName},
		{"a/", "k", api.ErrName},
		{"a:", "k", api.ErrName},
		{"a,", "k", api.ErrName},
		{"a@", "k", api.ErrName},
		{"a_", "k", api.ErrName},
		{"ä", "k", api.ErrName},
		{"...", "k", api.OK},
		{"ann", "", api.ErrKey},
		{"ann", "\x00", api.OK},
		{"ann", strings.Repeat("\xff", 64), api.OK},
		{"ann", strings.Repeat("\xff", 65), api.ErrKey},
		{"", "", api.ErrName},
		{"Ann", strings.Repeat("k", 65), api.ErrName},
	} {
		if e := Check(api.Binding{Name: c.name, Key: []byte(c.key), Serial: 1}); e != c.asked {
			t.Errorf("%q, %q: %v, want %v", c.name, c.key, e, c.asked)
		}
	}
}

// 5.1, R6: all names and keys at the edges, in the document's words; a Serial plays no part.
func TestCheckInWords(t *testing.T) {
	for _, s := range names() {
		for _, k := range keys() {
			asked := api.OK
			if !keyMayBe(k) {
				asked = api.ErrKey
			}
			if !nameMayBe(s) {
				asked = api.ErrName
			}
			if e := Check(api.Binding{Name: s, Key: k}); e != asked {
				t.Fatalf("%q, %x: %v, want %v", s, k, e, asked)
			}
		}
	}
	for _, n := range serials() {
		if e := Check(api.Binding{Name: "ann", Key: []byte("k"), Serial: n}); e != api.OK {
			t.Errorf("Serial %d: %v", n, e)
		}
	}
}

// 5.1: every byte at every place of a name of every length.
func TestCheckOfEveryByte(t *testing.T) {
	for n := 1; n <= 32; n++ {
		for place := range n {
			for c := range 256 {
				b := bytes.Repeat([]byte("m"), n)
				b[place] = byte(c)
				asked := api.ErrName
				if strings.IndexByte(nameBytes, byte(c)) >= 0 {
					asked = api.OK
				}
				if e := Check(api.Binding{Name: string(b), Key: []byte("k")}); e != asked {
					t.Fatalf("%q: %v, want %v", b, e, asked)
				}
			}
		}
	}
}

// 5.1: proofs at each edge.
func TestRight(t *testing.T) {
	some := digest(1)
	for _, c := range []struct {
		what  string
		p     api.Proof
		asked bool
	}{
		{"nothing", api.Proof{}, true},
		{"no Sides, not nil", api.Proof{Sides: []api.Digest{}}, true},
		{"a leaf", api.Proof{End: api.EndLeaf, Index: some, Value: some}, true},
		{"a leaf of noughts", api.Proof{End: api.EndLeaf}, true},
		{"256 Sides", api.Proof{Sides: digests(256)}, true},
		{"256 Sides and a leaf", api.Proof{Sides: digests(256), End: 1, Index: some, Value: some}, true},
		{"256 Sides of noughts", api.Proof{Sides: make([]api.Digest, 256)}, true},
		{"257 Sides", api.Proof{Sides: digests(257)}, false},
		{"257 Sides of noughts", api.Proof{Sides: make([]api.Digest, 257)}, false},
		{"257 Sides and a leaf", api.Proof{Sides: digests(257), End: 1, Index: some, Value: some}, false},
		{"End 2", api.Proof{End: 2}, false},
		{"End -1", api.Proof{End: -1}, false},
		{"End 257", api.Proof{End: 257}, false},
		{"End 2^32 + 1", api.Proof{End: 1<<32 + 1}, false},
		{"the least End", api.Proof{End: math.MinInt}, false},
		{"the greatest End", api.Proof{End: math.MaxInt}, false},
		{"End 2 and a leaf", api.Proof{End: 2, Index: some, Value: some}, false},
		{"an Index with EndEmpty", api.Proof{Index: some}, false},
		{"a Value with EndEmpty", api.Proof{Value: some}, false},
		{"both with EndEmpty", api.Proof{Index: some, Value: some}, false},
		{"a last byte of an Index with EndEmpty", api.Proof{Index: api.Digest{31: 1}}, false},
		{"a last byte of a Value with EndEmpty", api.Proof{Value: api.Digest{31: 1}}, false},
		{"an Index with EndEmpty below Sides", api.Proof{Sides: digests(256), Index: some}, false},
		{"an Index alone with EndLeaf", api.Proof{End: 1, Index: some}, true},
		{"a Value alone with EndLeaf", api.Proof{End: 1, Value: some}, true},
	} {
		if got := Right(c.p); got != c.asked {
			t.Errorf("%s: %v", c.what, got)
		}
	}
}

// 5.1: every count of Sides; every proof at the edges, in the document's words.
func TestRightInWords(t *testing.T) {
	for n := range 600 {
		if got := Right(api.Proof{Sides: digests(n)}); got != (n <= 256) {
			t.Errorf("%d Sides: %v", n, got)
		}
	}
	for _, p := range proofs() {
		if got := Right(p); got != proofMayBe(p) {
			t.Errorf("%d Sides, End %d, Index %x, Value %x: %v", len(p.Sides), p.End, p.Index, p.Value, got)
		}
	}
}

// 5.2: the chapter's example, and bytes written out.
func TestWrittenOut(t *testing.T) {
	x, y, z := digest(0x10), digest(0x50), digest(0x90)
	xs, ys, zs := string(x[:]), string(y[:]), string(z[:])
	k := []byte("k")
	below := "\xff\xff\xff\xff\xff\xff\xff\xff\xff\x01" // -1, modulo 2^64
	for _, c := range []struct {
		what  string
		got   []byte
		asked string
	}{
		{"ann, k, 1", Binding(api.Binding{Name: "ann", Key: k, Serial: 1}), "\x03ann\x01k\x01"},
		{"Serial 300", Binding(api.Binding{Name: "a", Key: []byte("\x00\xff"), Serial: 300}), "\x01a\x02\x00\xff\xac\x02"},
		{"a binding of nothing", Binding(api.Binding{}), "\x00\x00\x00"},
		{"Ann", Binding(api.Binding{Name: "Ann", Serial: math.MaxUint64}), "\x03Ann\x00" + below},
		{"a binding of 200 and 130 bytes", Binding(api.Binding{Name: name(200), Key: text(130)}), "\xc8\x01" + name(200) + "\x82\x01" + string(text(130)) + "\x00"},
		{"a register", Request(api.Request{Kind: api.Register, Name: "ann", Key: k}), "\x01\x03ann\x01k"},
		{"a register with an Auth", Request(api.Request{Kind: api.Register, Name: "ann", Key: k, Auth: x}), "\x01\x03ann\x01k"},
		{"a change", Request(api.Request{Kind: api.Change, Name: "ann", Key: k, Auth: x}), "\x02\x03ann\x01k" + xs},
		{"a change without an Auth", Request(api.Request{Kind: api.Change, Name: "ann", Key: k}), "\x02\x03ann\x01k" + strings.Repeat("\x00", 32)},
		{"a request of nothing", Request(api.Request{}), "\x00\x00\x00"},
		{"Kind 3", Request(api.Request{Kind: 3, Name: "Ann", Auth: x}), "\x03\x03Ann\x00"},
		{"Kind -1", Request(api.Request{Kind: -1, Name: "ann", Key: k, Auth: x}), below + "\x03ann\x01k"},
		{"the least Kind", Request(api.Request{Kind: math.MinInt, Auth: x}), "\x80\x80\x80\x80\x80\x80\x80\x80\x80\x01\x00\x00"},
		{"Kind 258", Request(api.Request{Kind: 258, Auth: x}), "\x82\x02\x00\x00"},
		{"a signed root", Signed(api.Signed{Root: api.Root{Epoch: 300, Prev: x, Tree: y, Next: z}, Sig: []byte("sig")}), "\xac\x02" + xs + ys + zs + "\x03sig"},
		{"a signed root of nothing", Signed(api.Signed{}), "\x00" + strings.Repeat("\x00", 96) + "\x00"},
		{"a way without Sides", Proof(api.Proof{}), "\x00\x00"},
		{"a leaf alone", Proof(api.Proof{End: api.EndLeaf, Index: x, Value: y}), "\x00\x01" + xs + ys},
		{"two Sides", Proof(api.Proof{Sides: []api.Digest{x, y}}), "\x02" + xs + ys + "\x00"},
		{"two Sides and a leaf", Proof(api.Proof{Sides: []api.Digest{y, x}, End: api.EndLeaf, Index: z, Value: x}), "\x02" + ys + xs + "\x01" + zs + xs},
		{"a leaf with EndEmpty", Proof(api.Proof{Index: x, Value: y}), "\x00\x00"},
		{"End 2", Proof(api.Proof{End: 2, Index: x, Value: y}), "\x00\x02"},
		{"End -1", Proof(api.Proof{Sides: []api.Digest{z}, End: -1, Index: x, Value: y}), "\x01" + zs + below},
		{"300 Sides", Proof(api.Proof{Sides: make([]api.Digest, 300)}), "\xac\x02" + strings.Repeat("\x00", 300*32+1)},
	} {
		want(t, c.what, c.got, []byte(c.asked))
	}
}

// writes tests that things are written, whatever they are, as the document's words say.
func writes[T any](t *testing.T, k kind[T]) {
	for i, x := range k.things {
		want(t, k.what, k.write(x), k.words(x))
		if t.Failed() {
			t.Fatalf("%s %d", k.what, i)
		}
	}
}

// 5.2: things that may be and such that may not, in the document's words.
func TestWrite(t *testing.T) {
	everyKind(func(b kind[api.Binding], q kind[api.Request], s kind[api.Signed], p kind[api.Proof]) {
		writes(t, b)
		writes(t, q)
		writes(t, s)
		writes(t, p)
	})
}

// asks holds what is read of bytes against the document's words: the thing, or ErrCodec and nothing beside it; and what is read is written as it was.
func asks[T any](t *testing.T, k kind[T], b []byte) (read bool) {
	t.Helper()
	got, e := k.read(b)
	asked, ok := k.parse(b)
	if !ok {
		if e != api.ErrCodec || !reflect.ValueOf(got).IsZero() {
			t.Fatalf("%s, of %d bytes that are none (%.200x): %v, %.200v", k.what, len(b), b, e, got)
		}
		return false
	}
	if e != api.OK || !k.same(got, asked) {
		t.Fatalf("%s of %.200x: %v, %.200v, want %.200v", k.what, b, e, got, asked)
	}
	if !k.mayBe(got) || !bytes.Equal(k.write(got), b) {
		t.Fatalf("%s of %.200x is written %.200x", k.what, b, k.write(got))
	}
	return true
}

// reads tests that what may be is read as what it was, and that bytes of what may not be are refused, or those of another one that may be.
func reads[T any](t *testing.T, k kind[T]) {
	count := 0
	for _, x := range k.things {
		b := k.words(x)
		if asks(t, k, b) {
			count++
		}
		if got, e := k.read(b); k.mayBe(x) && (e != api.OK || !k.same(got, x)) {
			t.Fatalf("%s: %v, %.200v, want %.200v", k.what, e, got, x)
		}
	}
	if count == 0 || count == len(k.things) {
		t.Fatalf("%s: %d of %d are read", k.what, count, len(k.things))
	}
}

// 5.3, 5.4: what may be is read as what it was, what may not be is refused.
func TestRead(t *testing.T) {
	everyKind(func(b kind[api.Binding], q kind[api.Request], s kind[api.Signed], p kind[api.Proof]) {
		reads(t, b)
		reads(t, q)
		reads(t, s)
		reads(t, p)
	})
}

// 5.3: bytes written out, and what they are.
func TestReadWrittenOut(t *testing.T) {
	x, y := digest(0x10), digest(0x50)
	xs, ys := string(x[:]), string(y[:])
	if b, e := ReadBinding([]byte("\x03ann\x01k\x01")); e != api.OK || b.Name != "ann" || string(b.Key) != "k" || b.Serial != 1 {
		t.Errorf("a binding: %v, %v", b, e)
	}
	if q, e := ReadRequest([]byte("\x01\x03ann\x01k")); e != api.OK || q.Kind != api.Register || q.Name != "ann" || string(q.Key) != "k" || q.Auth != (api.Digest{}) {
		t.Errorf("a register: %v, %v", q, e)
	}
	if q, e := ReadRequest([]byte("\x02\x03ann\x01k" + xs)); e != api.OK || q.Kind != api.Change || q.Name != "ann" || string(q.Key) != "k" || q.Auth != x {
		t.Errorf("a change: %v, %v", q, e)
	}
	if s, e := ReadSigned([]byte("\x07" + xs + ys + xs[1:] + "\x99" + "\x02si")); e != api.OK || s.Root != (api.Root{Epoch: 7, Prev: x, Tree: y, Next: api.Digest([]byte(xs[1:] + "\x99"))}) || string(s.Sig) != "si" {
		t.Errorf("a signed root: %v, %v", s, e)
	}
	if p, e := ReadProof([]byte("\x00\x00")); e != api.OK || len(p.Sides) != 0 || p.End != api.EndEmpty || p.Index != (api.Digest{}) || p.Value != (api.Digest{}) {
		t.Errorf("a way without Sides: %v, %v", p, e)
	}
	if p, e := ReadProof([]byte("\x02" + xs + ys + "\x01" + ys + xs)); e != api.OK || !slices.Equal(p.Sides, []api.Digest{x, y}) || p.End != api.EndLeaf || p.Index != y || p.Value != x {
		t.Errorf("two Sides and a leaf: %v, %v", p, e)
	}
}

// refuses tests that bytes are none of a kind: ErrCodec, and nothing beside it.
func refuses[T any](t *testing.T, read func([]byte) (T, api.Errno), what, b string) {
	t.Helper()
	if got, e := read([]byte(b)); e != api.ErrCodec || !reflect.ValueOf(got).IsZero() {
		t.Errorf("%s: %v, %.200v", what, e, got)
	}
}

// 5.3: bytes, written out, of bindings that may not be, and in other forms.
func TestNoBindings(t *testing.T) {
	for what, b := range map[string]string{
		"nothing":                "",
		"no name":                "\x00\x01k\x01",
		"Ann":                    "\x03Ann\x01k\x01",
		"a blank":                "\x01 \x01k\x01",
		"a name of 33 bytes":     "\x21" + strings.Repeat("a", 33) + "\x01k\x01",
		"a name of 2^20 bytes":   "\x80\x80\x40" + strings.Repeat("a", 1<<20) + "\x01k\x01",
		"no key":                 "\x03ann\x00\x01",
		"a key of 65 bytes":      "\x03ann\x41" + strings.Repeat("k", 65) + "\x01",
		"no Serial":              "\x03ann\x01k",
		"a longer name's length": "\x83\x00ann\x01k\x01",
		"a longer key's length":  "\x03ann\x81\x00k\x01",
		"a longer Serial":        "\x03ann\x01k\x81\x00",
		"a Serial of 65 bits":    "\x03ann\x01k\xff\xff\xff\xff\xff\xff\xff\xff\xff\x02",
		"a byte more":            "\x03ann\x01k\x01\x00",
		"a binding more":         "\x03ann\x01k\x01\x03ann\x01k\x01",
		"a request":              "\x01\x03ann\x01k",
		"a great length":         "\xff\xff\xff\xff\xff\xff\xff\xff\xff\x01ann\x01k\x01",
	} {
		refuses(t, ReadBinding, what, b)
	}
}

// 5.3: bytes, written out, of requests that may not be, and in other forms.
func TestNoRequests(t *testing.T) {
	auth := strings.Repeat("\x07", 32)
	for what, b := range map[string]string{
		"nothing":                      "",
		"Kind 0":                       "\x00\x03ann\x01k",
		"Kind 0 with an Auth":          "\x00\x03ann\x01k" + auth,
		"Kind 3":                       "\x03\x03ann\x01k",
		"Kind 3 with an Auth":          "\x03\x03ann\x01k" + auth,
		"Kind -1":                      "\xff\xff\xff\xff\xff\xff\xff\xff\xff\x01\x03ann\x01k",
		"Kind 257":                     "\x81\x02\x03ann\x01k",
		"Kind 258":                     "\x82\x02\x03ann\x01k" + auth,
		"Kind 2^32 + 1":                "\x81\x80\x80\x80\x10\x03ann\x01k",
		"Kind 2^64 + 1":                "\x81\x80\x80\x80\x80\x80\x80\x80\x80\x02\x03ann\x01k",
		"a longer Kind":                "\x81\x00\x03ann\x01k",
		"a register with an Auth":      "\x01\x03ann\x01k" + auth,
		"a register with noughts":      "\x01\x03ann\x01k" + strings.Repeat("\x00", 32),
		"a change without an Auth":     "\x02\x03ann\x01k",
		"a change with 31 bytes of it": "\x02\x03ann\x01k" + auth[1:],
		"a change with 33 bytes of it": "\x02\x03ann\x01k" + auth + "\x07",
		"a register of Ann":            "\x01\x03Ann\x01k",
		"a change of Ann":              "\x02\x03Ann\x01k" + auth,
		"no name":                      "\x01\x00\x01k",
		"no key":                       "\x01\x03ann\x00",
		"a name of 33 bytes":           "\x02\x21" + strings.Repeat("a", 33) + "\x01k" + auth,
		"a key of 65 bytes":            "\x02\x03ann\x41" + strings.Repeat("k", 65) + auth,
		"a longer name's length":       "\x01\x83\x00ann\x01k",
		"a longer key's length":        "\x01\x03ann\x81\x00k",
	} {
		refuses(t, ReadRequest, what, b)
	}
}

// 5.3: bytes, written out, that are no signed roots: a Sig of 2^20 bytes is the longest.
func TestNoSigneds(t *testing.T) {
	root := "\x01" + strings.Repeat("\x07", 96)
	for what, b := range map[string]string{
		"nothing":                   "",
		"an epoch":                  "\x01",
		"two digests":               root[:65] + "\x00",
		"no Sig":                    root,
		"a Sig cut short":           root + "\x02s",
		"a byte behind the Sig":     root + "\x01ss",
		"a longer length":           root + "\x81\x00s",
		"a longer epoch":            "\x81\x00" + root[1:] + "\x00",
		"an epoch of 65 bits":       "\xff\xff\xff\xff\xff\xff\xff\xff\xff\x03" + root[1:] + "\x00",
		"a Sig of 2^20 + 1 bytes":   root + "\x81\x80\x40" + strings.Repeat("s", 1<<20+1),
		"a Sig that can't be there": root + "\xff\xff\xff\xff\xff\xff\xff\xff\xff\x01" + "s",
	} {
		refuses(t, ReadSigned, what, b)
	}
	if s, e := ReadSigned([]byte(root + "\x80\x80\x40" + strings.Repeat("s", 1<<20))); e != api.OK || len(s.Sig) != 1<<20 {
		t.Errorf("a Sig of 2^20 bytes: %v, %d", e, len(s.Sig))
	}
	if s, e := ReadSigned([]byte(root + "\x00")); e != api.OK || len(s.Sig) != 0 || s.Root.Epoch != 1 {
		t.Errorf("a Sig of no byte: %v, %v", e, s)
	}
}

// 5.3: bytes, written out, of proofs that may not be, and in other forms.
func TestNoProofs(t *testing.T) {
	side, leaf := strings.Repeat("\x07", 32), strings.Repeat("\x09", 64)
	for what, b := range map[string]string{
		"nothing":                     "",
		"no End":                      "\x00",
		"no End behind a Side":        "\x01" + side,
		"257 Sides":                   "\x81\x02" + strings.Repeat(side, 257) + "\x00",
		"257 Sides and a leaf":        "\x81\x02" + strings.Repeat(side, 257) + "\x01" + leaf,
		"a Side less than it says":    "\x02" + side + "\x00",
		"a Side more than it says":    "\x01" + side + side + "\x00",
		"Sides that can't be there":   "\xff\xff\xff\xff\xff\xff\xff\xff\xff\x01" + side + "\x00",
		"256 Sides that aren't there": "\x80\x02\x00",
		"a longer count":              "\x81\x00" + side + "\x00",
		"End 2":                       "\x00\x02",
		"End 2 and a leaf":            "\x00\x02" + leaf,
		"End -1":                      "\x00\xff\xff\xff\xff\xff\xff\xff\xff\xff\x01",
		"End 256":                     "\x00\x80\x02",
		"End 257 and a leaf":          "\x00\x81\x02" + leaf,
		"a longer End":                "\x00\x80\x00",
		"a longer End and a leaf":     "\x00\x81\x00" + leaf,
		"EndEmpty and a leaf":         "\x00\x00" + leaf,
		"EndEmpty and noughts":        "\x00\x00" + strings.Repeat("\x00", 64),
		"EndLeaf and no leaf":         "\x00\x01",
		"EndLeaf and an Index":        "\x00\x01" + leaf[:32],
		"EndLeaf and 63 bytes":        "\x00\x01" + leaf[:63],
		"EndLeaf and 65 bytes":        "\x00\x01" + leaf + "\x09",
	} {
		refuses(t, ReadProof, what, b)
	}
	if p, e := ReadProof([]byte("\x80\x02" + strings.Repeat(side, 256) + "\x01" + leaf)); e != api.OK || len(p.Sides) != 256 || p.Value != api.Digest([]byte(leaf[32:])) {
		t.Errorf("256 Sides and a leaf: %v, %d Sides", e, len(p.Sides))
	}
}

// short is those of a kind's things that may be and whose bytes are few.
func short[T any](k kind[T]) (l [][]byte) {
	for _, x := range k.things {
		if b := k.words(x); k.mayBe(x) && len(b) <= 400 {
			l = append(l, b)
		}
	}
	return l
}

// cuts tests that bytes cut short anywhere, or with more behind them, are none, even where what would make them whole lies behind their length.
func cuts[T any](t *testing.T, k kind[T]) {
	l := short(k)
	if len(l) == 0 {
		t.Fatalf("no %s is short", k.what)
	}
	for _, b := range l {
		for n := range len(b) {
			if got, e := k.read(b[:n]); e != api.ErrCodec || !reflect.ValueOf(got).IsZero() {
				t.Fatalf("%s %x, cut to %d bytes: %v, %v", k.what, b, n, e, got)
			}
		}
		for _, more := range [][]byte{{0}, {1}, {0x80}, {0xff}, text(32), text(100), b} {
			if got, e := k.read(slices.Concat(b, more)); e != api.ErrCodec || !reflect.ValueOf(got).IsZero() {
				t.Fatalf("%s %x, %x behind it: %v, %v", k.what, b, more, e, got)
			}
		}
	}
}

// 5.3: bytes of each thing that are cut short, or have more behind them.
func TestCutShortOrMore(t *testing.T) {
	everyKind(func(b kind[api.Binding], q kind[api.Request], s kind[api.Signed], p kind[api.Proof]) {
		cuts(t, b)
		cuts(t, q)
		cuts(t, s)
		cuts(t, p)
	})
}

// 5.3: the longest ones, cut short by a byte and with one more.
func TestLongestCutShortOrMore(t *testing.T) {
	s := signedBytes(api.Signed{Sig: text(1 << 20)})
	refuses(t, ReadSigned, "a byte less", string(s[:len(s)-1]))
	refuses(t, ReadSigned, "a byte more", string(s)+"\x00")
	for _, end := range []int{0, 1} {
		p := proofBytes(api.Proof{Sides: digests(256), End: end})
		refuses(t, ReadProof, "a byte less", string(p[:len(p)-1]))
		refuses(t, ReadProof, "a byte more", string(p)+"\x00")
	}
}

// spoils reads bytes of which one is another, is taken out, or stands twice.
func spoils[T any](t *testing.T, k kind[T], b []byte) {
	for i := range b {
		for c := range 256 {
			other := bytes.Clone(b)
			other[i] = byte(c)
			asks(t, k, other)
		}
		asks(t, k, slices.Delete(bytes.Clone(b), i, i+1))
		asks(t, k, slices.Insert(bytes.Clone(b), i, b[i]))
	}
}

// 5.3, 5.4: bytes of which any one is another: read as what the document's words say, or refused.
func TestSpoiled(t *testing.T) {
	everyKind(func(b kind[api.Binding], q kind[api.Request], s kind[api.Signed], p kind[api.Proof]) {
		spoils(t, b, bindingBytes(api.Binding{Name: "ann", Key: []byte("kk"), Serial: 300}))
		spoils(t, b, bindingBytes(api.Binding{Name: name(32), Key: text(64), Serial: math.MaxUint64}))
		spoils(t, q, requestBytes(api.Request{Kind: 1, Name: "ann", Key: []byte("k")}))
		spoils(t, q, requestBytes(api.Request{Kind: 1, Name: name(32), Key: text(64)}))
		spoils(t, q, requestBytes(api.Request{Kind: 1, Name: "a", Key: []byte("k\x05aaaaa")}))
		spoils(t, q, requestBytes(api.Request{Kind: 2, Name: "ann", Key: []byte("k"), Auth: digest(1)}))
		spoils(t, s, signedBytes(api.Signed{Root: api.Root{Epoch: 300, Prev: digest(1), Tree: digest(2), Next: digest(3)}, Sig: text(130)}))
		spoils(t, s, signedBytes(api.Signed{}))
		spoils(t, p, proofBytes(api.Proof{Sides: digests(2), End: 1, Index: digest(3), Value: digest(4)}))
		spoils(t, p, proofBytes(api.Proof{Sides: digests(3)}))
		spoils(t, p, proofBytes(api.Proof{Sides: make([]api.Digest, 4)}))
		spoils(t, p, proofBytes(api.Proof{}))
	})
}

// all is every row of at most n bytes out of some.
func all(some []byte, n int, f func(b []byte)) {
	f(nil)
	var longer func(b []byte)
	longer = func(b []byte) {
		for _, c := range some {
			next := append(bytes.Clone(b), c)
			f(next)
			if len(next) < n {
				longer(next)
			}
		}
	}
	longer(nil)
}

// 5.3, 5.4: all rows of at most six bytes out of some, alone and with digests between: read as what the document's words say, or refused.
func TestAllBytes(t *testing.T) {
	some := []byte{0, 1, 2, 3, 'a', 'A', 0x80, 0x81}
	everyKind(func(b kind[api.Binding], q kind[api.Request], s kind[api.Signed], p kind[api.Proof]) {
		found := [5]int{}
		count := func(i int, read bool) {
			if read {
				found[i]++
			}
		}
		all(some, 6, func(row []byte) {
			count(0, asks(t, b, row))
			count(1, asks(t, q, row))
		})
		all(some, 4, func(row []byte) {
			count(2, asks(t, p, row))
			count(2, asks(t, p, slices.Concat(row, text(64))))
			for n := range len(row) + 1 {
				count(3, asks(t, s, slices.Concat(row[:n], text(96), row[n:])))
				count(4, asks(t, q, slices.Concat(row, text(32))))
				count(2, asks(t, p, slices.Concat(row[:n], text(32), row[n:])))
				count(2, asks(t, p, slices.Concat(row[:n], text(64), row[n:], text(64))))
			}
		})
		if slices.Contains(found[:4], 0) {
			t.Errorf("read: %v", found)
		}
	})
}

// differs tests that unlike things that may be have unlike bytes, and like ones the same.
func differs[T any](t *testing.T, k kind[T]) {
	byBytes := map[string]T{}
	for _, x := range k.things {
		if !k.mayBe(x) {
			continue
		}
		b := string(k.write(x))
		if y, there := byBytes[b]; there && !k.same(x, y) {
			t.Errorf("%s: %.200v and %.200v have the same bytes", k.what, x, y)
		}
		byBytes[b] = x
	}
	if len(byBytes) < 10 {
		t.Errorf("%s: %d unlike ones", k.what, len(byBytes))
	}
}

// 5.4, P7: unlike things have unlike bytes.
func TestUnlike(t *testing.T) {
	everyKind(func(b kind[api.Binding], q kind[api.Request], s kind[api.Signed], p kind[api.Proof]) {
		differs(t, b)
		differs(t, q)
		differs(t, s)
		differs(t, p)
	})
}

// 5.4: a thing with any one field another is read as that, so each field's every byte is told.
func TestEachFieldIsTold(t *testing.T) {
	for i := range 32 {
		one := api.Digest{}
		one[i] = 0x80
		if q, e := ReadRequest(Request(api.Request{Kind: 2, Name: "a", Key: []byte("k"), Auth: one})); e != api.OK || q.Auth != one {
			t.Errorf("Auth, byte %d: %v, %v", i, q, e)
		}
		for _, root := range []api.Root{{Prev: one}, {Tree: one}, {Next: one}} {
			if s, e := ReadSigned(Signed(api.Signed{Root: root})); e != api.OK || s.Root != root {
				t.Errorf("byte %d: %v, %v", i, s, e)
			}
		}
		for _, p := range []api.Proof{{End: 1, Index: one}, {End: 1, Value: one}, {Sides: []api.Digest{one}}, {Sides: []api.Digest{{}, one}}} {
			if got, e := ReadProof(Proof(p)); e != api.OK || !sameProof(got, p) {
				t.Errorf("byte %d: %v, %v", i, got, e)
			}
		}
	}
	for n := range 64 {
		if s, e := ReadSigned(Signed(api.Signed{Root: api.Root{Epoch: 1 << n}})); e != api.OK || s.Root.Epoch != 1<<n {
			t.Errorf("Epoch 2^%d: %v, %v", n, s, e)
		}
		if b, e := ReadBinding(Binding(api.Binding{Name: "a", Key: []byte("k"), Serial: 1 << n})); e != api.OK || b.Serial != 1<<n {
			t.Errorf("Serial 2^%d: %v, %v", n, b, e)
		}
	}
}

// 5.2, 5.3: what may not be is written, but not read: what is lost in the bytes is read as the thing that may be.
func TestWrittenButNotRead(t *testing.T) {
	q, e := ReadRequest(Request(api.Request{Kind: 1, Name: "ann", Key: []byte("k"), Auth: digest(1)}))
	if e != api.OK || !sameRequest(q, api.Request{Kind: 1, Name: "ann", Key: []byte("k")}) {
		t.Errorf("a register with an Auth: %v, %v", q, e)
	}
	p, e := ReadProof(Proof(api.Proof{Index: digest(1), Value: digest(2)}))
	if e != api.OK || !sameProof(p, api.Proof{}) {
		t.Errorf("an Index with EndEmpty: %v, %v", p, e)
	}
	for _, kind := range numbers() {
		if kind != 1 && kind != 2 {
			refuses(t, ReadRequest, "Kind", string(Request(api.Request{Kind: kind, Name: "ann", Key: []byte("k")})))
		}
		if kind != 0 && kind != 1 {
			refuses(t, ReadProof, "End", string(Proof(api.Proof{End: kind})))
		}
	}
}

// roomy is l in memory that has more behind it, which no call is to see.
func roomy[T any](l []T, more T) (part, whole []T) {
	whole = append(slices.Clone(l), more, more, more, more)
	return whole[:len(l)], whole
}

// R3: what is handed in stays as it was, with what lies behind it; what is answered is new memory.
func TestWritingIsNewMemory(t *testing.T) {
	key, keyRoom := roomy([]byte("key"), 'x')
	side, sideRoom := roomy(digests(3), digest(77))
	for what, write := range map[string]func() []byte{
		"binding":     func() []byte { return Binding(api.Binding{Name: "ann", Key: key, Serial: 1}) },
		"register":    func() []byte { return Request(api.Request{Kind: 1, Name: "ann", Key: key}) },
		"change":      func() []byte { return Request(api.Request{Kind: 2, Name: "ann", Key: key, Auth: digest(1)}) },
		"signed root": func() []byte { return Signed(api.Signed{Sig: key}) },
		"proof":       func() []byte { return Proof(api.Proof{Sides: side, End: 1}) },
		"empty end":   func() []byte { return Proof(api.Proof{Sides: side}) },
	} {
		first, kept := write(), write()
		if !bytes.Equal(first, kept) {
			t.Errorf("%s: two answers: %x, %x", what, first, kept)
		}
		clear(first[:cap(first)])
		want(t, what+", once more", write(), kept)
		if string(keyRoom) != "keyxxxx" || !slices.Equal(sideRoom, append(digests(3), digest(77), digest(77), digest(77), digest(77))) {
			t.Fatalf("%s: what was handed in is changed", what)
		}
	}
}

// R3: bytes that are read stay as they were; what is read hangs on them no more, and no two answers share memory.
func TestReadingIsNewMemory(t *testing.T) {
	check := func(what string, b []byte, read func(b []byte) (lists [][]byte, again func() []byte)) {
		part, whole := roomy(b, 1)
		kept := bytes.Clone(whole)
		lists, first := read(part)
		_, second := read(part)
		want(t, what+", handed in", whole, kept)
		for _, l := range lists {
			clear(l[:cap(l)])
		}
		want(t, what+", handed in, an answer written over", whole, kept)
		want(t, what+", another answer", second(), b)
		_, third := read(part)
		clear(whole)
		want(t, what+", what was handed in written over", third(), b)
		if bytes.Equal(first(), b) {
			t.Errorf("%s: nothing was written over", what)
		}
	}
	check("binding", bindingBytes(api.Binding{Name: "ann", Key: []byte("key")}), func(b []byte) ([][]byte, func() []byte) {
		x, _ := ReadBinding(b)
		return [][]byte{x.Key}, func() []byte { return bindingBytes(x) }
	})
	check("request", requestBytes(api.Request{Kind: 2, Name: "ann", Key: []byte("key"), Auth: digest(1)}), func(b []byte) ([][]byte, func() []byte) {
		q, _ := ReadRequest(b)
		return [][]byte{q.Key}, func() []byte { return requestBytes(q) }
	})
	check("signed root", signedBytes(api.Signed{Root: api.Root{Epoch: 1}, Sig: []byte("sig")}), func(b []byte) ([][]byte, func() []byte) {
		s, _ := ReadSigned(b)
		return [][]byte{s.Sig}, func() []byte { return signedBytes(s) }
	})
	check("proof", proofBytes(api.Proof{Sides: digests(3), End: 1, Index: digest(1)}), func(b []byte) ([][]byte, func() []byte) {
		p, _ := ReadProof(b)
		var lists [][]byte
		for i := range p.Sides {
			lists = append(lists, p.Sides[i][:])
		}
		return lists, func() []byte { return proofBytes(p) }
	})
}

// R3: Check and Right look, and change nothing.
func TestLookingChangesNothing(t *testing.T) {
	key, keyRoom := roomy([]byte("key"), 'x')
	side, sideRoom := roomy(digests(256), digest(77))
	if e := Check(api.Binding{Name: "ann", Key: key}); e != api.OK || string(keyRoom) != "keyxxxx" {
		t.Errorf("%v, %q", e, keyRoom)
	}
	if !Right(api.Proof{Sides: side}) || !slices.Equal(sideRoom[:256], digests(256)) || sideRoom[256] != digest(77) {
		t.Error("a proof of 256 Sides, with more behind them")
	}
}

// P1: bytes that say that much is there, and nothing is; and great things that are written.
func TestGreat(t *testing.T) {
	for n := range 64 {
		b := string(append(numBytes(1<<n), 1, 1, 1))
		refuses(t, ReadBinding, "a great name", b)
		refuses(t, ReadRequest, "a great kind", b)
		refuses(t, ReadSigned, "a great epoch", b)
		refuses(t, ReadProof, "great Sides", b)
	}
	b := api.Binding{Name: strings.Repeat("a", 1<<21), Key: text(1 << 21)}
	if e := Check(b); e != api.ErrName {
		t.Errorf("a name of 2^21 bytes: %v", e)
	}
	if !bytes.Equal(Binding(b), bindingBytes(b)) {
		t.Error("a binding of 2^22 bytes is written otherwise")
	}
	refuses(t, ReadBinding, "a binding of 2^22 bytes", string(bindingBytes(b)))
	p := api.Proof{Sides: make([]api.Digest, 1<<16), End: 1}
	if Right(p) || !bytes.Equal(Proof(p), proofBytes(p)) {
		t.Error("a proof of 2^16 Sides is right, or written otherwise")
	}
	refuses(t, ReadProof, "2^16 Sides", string(proofBytes(p)))
}

// P7: one call says nothing of the next.
func TestAlike(t *testing.T) {
	for range 3 {
		refuses(t, ReadBinding, "a byte more", "\x03ann\x01k\x01\x00")
		if b, e := ReadBinding([]byte("\x03ann\x01k\x01")); e != api.OK || !sameBinding(b, api.Binding{Name: "ann", Key: []byte("k"), Serial: 1}) {
			t.Errorf("%v, %v", b, e)
		}
		refuses(t, ReadProof, "End 2", "\x00\x02")
		if p, e := ReadProof([]byte("\x00\x00")); e != api.OK || !sameProof(p, api.Proof{}) {
			t.Errorf("%v, %v", p, e)
		}
	}
}
