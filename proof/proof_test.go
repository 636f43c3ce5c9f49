package proof

import (
	"bytes"
	"crypto/sha256"
	"encoding/hex"
	"math"
	"slices"
	"strconv"
	"testing"

	"blazon/api"
	"blazon/tree"
)

// filled is 32 bytes, all of them that one.
func filled(b byte) api.Digest {
	return api.Digest(bytes.Repeat([]byte{b}, 32))
}

// chance is a digest that is like chance, but the same one each time.
func chance(i int) api.Digest {
	return sha256.Sum256([]byte(strconv.Itoa(i)))
}

// chances is so many digests that are like chance.
func chances(n int) []api.Digest {
	var l []api.Digest
	for i := range n {
		l = append(l, chance(i))
	}
	return l
}

// bitOf is a digest's bit, counted from the highest one of the first byte on; behind the last one there is none.
func bitOf(d api.Digest, i int) bool {
	return i < 256 && d[i/8]>>(7-i%8)&1 == 1
}

// turned is a digest of which that bit is the other one.
func turned(d api.Digest, i int) api.Digest {
	d[i/8] ^= 1 << (7 - i%8)
	return d
}

// joined is a sign and digests behind it.
func joined(sign string, l ...api.Digest) []byte {
	b := []byte(sign)
	for _, d := range l {
		b = append(b, d[:]...)
	}
	return b
}

// textsOf is 8.1, word by word, told from the root on: what stands ahead of the Sides that are left.
func textsOf(index api.Digest, p api.Proof, ahead int) [][]byte {
	if ahead == len(p.Sides) && p.End == 1 {
		return [][]byte{joined("L", p.Index, p.Value)}
	}
	if ahead == len(p.Sides) {
		return [][]byte{joined("E")}
	}
	below := textsOf(index, p, ahead+1)
	digest, side := api.Digest(sha256.Sum256(below[0])), p.Sides[ahead]
	if bitOf(index, ahead) {
		return append([][]byte{joined("N", side, digest)}, below...)
	}
	return append([][]byte{joined("N", digest, side)}, below...)
}

// rootOf is the root that a way leads from.
func rootOf(index api.Digest, p api.Proof) api.Digest {
	return sha256.Sum256(textsOf(index, p, 0)[0])
}

// sameTexts tells whether two lists of texts are the same.
func sameTexts(a, b [][]byte) bool {
	return slices.EqualFunc(a, b, bytes.Equal)
}

// ways is ways of all lengths that may be, and of some that may not, with each end, in the order of their Sides.
func ways() []api.Proof {
	var l []api.Proof
	for _, n := range []int{0, 1, 2, 3, 7, 8, 9, 31, 64, 255, 256, 257, 300} {
		for _, end := range []int{0, 1, 2, -1, 256, math.MaxInt, math.MinInt} {
			l = append(l, api.Proof{Sides: chances(n), End: end, Index: chance(1000), Value: chance(1001)})
		}
		l = append(l, api.Proof{Sides: chances(n)}, api.Proof{Sides: make([]api.Digest, n), End: 1})
	}
	return l
}

// indexes is indexes whose bits are off, on, and mixed.
func indexes() []api.Digest {
	return []api.Digest{{}, filled(0xff), filled(0x55), filled(0xaa), {0x80}, {31: 1}, chance(1000), chance(2000)}
}

// mustProve asks Check, which must tell that.
func mustProve(t *testing.T, name string, root, index api.Digest, p api.Proof, value api.Digest, there bool) {
	t.Helper()
	if got, ok, e := Check(root, index, p); got != value || ok != there || e != api.OK {
		t.Errorf("%s: %x, %v, %v; want %x, %v", name, got, ok, e, value, there)
	}
}

// mustBeBad asks Check, which must tell ErrBad, and nothing beside it.
func mustBeBad(t *testing.T, name string, root, index api.Digest, p api.Proof) {
	t.Helper()
	if got, ok, e := Check(root, index, p); got != (api.Digest{}) || ok || e != api.ErrBad {
		t.Errorf("%s: %x, %v, %v; want ErrBad alone", name, got, ok, e)
	}
}

// 8.2: the chapter's examples, with a digest that was worked out elsewhere.
func TestExamples(t *testing.T) {
	b, _ := hex.DecodeString("a9f51566bd6705f7ea6ad54bb9deb449f795582d6529a0e22207b8981233ec58")
	ofE := api.Digest(b)
	for _, index := range indexes() {
		mustProve(t, "the digest of E", ofE, index, api.Proof{}, api.Digest{}, false)
		mustProve(t, "a list without elements", ofE, index, api.Proof{Sides: []api.Digest{}}, api.Digest{}, false)
		mustBeBad(t, "another root", api.Digest{}, index, api.Proof{})
		for bit := range 256 {
			mustBeBad(t, "a root of which one bit is another one", turned(ofE, bit), index, api.Proof{})
		}
	}
}

// 8.1: what is hashed along ways that are written out.
func TestHashedWrittenOut(t *testing.T) {
	side, leaf := filled('s'), api.Proof{End: api.EndLeaf, Index: filled('i'), Value: filled('v')}
	text := "L" + string(bytes.Repeat([]byte("i"), 32)) + string(bytes.Repeat([]byte("v"), 32))
	ofLeaf, ofEmpty := sha256.Sum256([]byte(text)), sha256.Sum256([]byte("E"))
	sides := string(bytes.Repeat([]byte("s"), 32))
	for _, s := range []struct {
		name  string
		index api.Digest
		p     api.Proof
		want  []string
	}{
		{"empty", filled(0xff), api.Proof{}, []string{"E"}},
		{"a leaf", api.Digest{}, leaf, []string{text}},
		{"empty, off", filled(0x7f), api.Proof{Sides: []api.Digest{side}}, []string{"N" + string(ofEmpty[:]) + sides, "E"}},
		{"empty, on", api.Digest{0x80}, api.Proof{Sides: []api.Digest{side}}, []string{"N" + sides + string(ofEmpty[:]), "E"}},
		{"a leaf, off", filled(0x7f), api.Proof{Sides: []api.Digest{side}, End: 1, Index: leaf.Index, Value: leaf.Value}, []string{"N" + string(ofLeaf[:]) + sides, text}},
		{"a leaf, on", api.Digest{0x80}, api.Proof{Sides: []api.Digest{side}, End: 1, Index: leaf.Index, Value: leaf.Value}, []string{"N" + sides + string(ofLeaf[:]), text}},
	} {
		var want [][]byte
		for _, x := range s.want {
			want = append(want, []byte(x))
		}
		if got := Hashed(s.index, s.p); !sameTexts(got, want) {
			t.Errorf("%s: %q, want %q", s.name, got, want)
		}
		if got, want := Root(s.index, s.p), api.Digest(sha256.Sum256(want[0])); got != want {
			t.Errorf("%s: root %x, want %x", s.name, got, want)
		}
	}
}

// 8.1: ways of all lengths and ends, along indexes of all kinds; neither asks whether a way may be.
func TestHashedAndRoot(t *testing.T) {
	for _, p := range ways() {
		for _, index := range indexes() {
			want := textsOf(index, p, 0)
			got := Hashed(index, p)
			if !sameTexts(got, want) {
				t.Fatalf("%d sides, end %d, at %x: another list of texts", len(p.Sides), p.End, index)
			}
			if len(got) != len(p.Sides)+1 {
				t.Fatalf("%d sides: %d texts", len(p.Sides), len(got))
			}
			if got, want := Root(index, p), api.Digest(sha256.Sum256(want[0])); got != want {
				t.Fatalf("%d sides, end %d, at %x: root %x, want %x", len(p.Sides), p.End, index, got, want)
			}
		}
	}
}

// 8.1: each Side stands on the side that index's bit of its own place says, and on no other bit's.
func TestEachSideByItsBit(t *testing.T) {
	p := api.Proof{Sides: chances(257), End: api.EndLeaf, Index: chance(1000), Value: chance(1001)}
	for bit := range 256 {
		for _, index := range []api.Digest{turned(api.Digest{}, bit), turned(filled(0xff), bit)} {
			texts := Hashed(index, p)
			if len(texts) != 258 {
				t.Fatalf("%d texts", len(texts))
			}
			for i, side := range p.Sides {
				place := texts[i][33:65]
				if bitOf(index, i) {
					place = texts[i][1:33]
				}
				if !bytes.Equal(place, side[:]) {
					t.Fatalf("at %x: side %d is not at its place", index, i)
				}
			}
		}
	}
}

// 8.2: a way that ends with the leaf that is asked for proves its Value, whatever that is, at all lengths that may be.
func TestCheckThere(t *testing.T) {
	for _, n := range []int{0, 1, 2, 8, 100, 255, 256} {
		for _, index := range indexes() {
			for _, value := range []api.Digest{chance(1), {}, index} {
				p := api.Proof{Sides: chances(n), End: api.EndLeaf, Index: index, Value: value}
				mustProve(t, strconv.Itoa(n)+" sides", rootOf(index, p), index, p, value, true)
			}
		}
	}
}

// 8.2: a way that ends empty proves that the index is not there: that of noughts, too.
func TestCheckEmpty(t *testing.T) {
	for _, n := range []int{0, 1, 2, 8, 100, 255, 256} {
		for _, index := range indexes() {
			p := api.Proof{Sides: chances(n)}
			mustProve(t, strconv.Itoa(n)+" sides", rootOf(index, p), index, p, api.Digest{}, false)
		}
	}
}

// 8.2: a leaf of another Index proves that the index is not there, if they have as many first bits in common as there are Sides; with one bit fewer it is bad.
func TestCheckAnotherLeaf(t *testing.T) {
	for _, index := range indexes() {
		for _, bit := range []int{0, 1, 2, 6, 7, 8, 9, 63, 127, 128, 200, 247, 248, 254, 255} {
			p := api.Proof{Sides: chances(bit), End: api.EndLeaf, Index: turned(index, bit), Value: chance(1)}
			mustProve(t, strconv.Itoa(bit)+" bits and sides", rootOf(index, p), index, p, api.Digest{}, false)
			p.Sides = chances(bit + 1)
			mustBeBad(t, strconv.Itoa(bit)+" bits, one side more", rootOf(index, p), index, p)
			mustBeBad(t, strconv.Itoa(bit)+" bits, one side more, by its own bits", rootOf(p.Index, p), index, p)
		}
		for _, n := range []int{1, 2, 9, 255, 256} {
			p := api.Proof{Sides: chances(n), End: api.EndLeaf, Index: turned(index, 0), Value: chance(1)}
			mustBeBad(t, "no bit in common, "+strconv.Itoa(n)+" sides", rootOf(index, p), index, p)
			p.Index = turned(turned(index, n-1), 255)
			if n < 256 {
				mustBeBad(t, "one bit fewer, "+strconv.Itoa(n)+" sides", rootOf(index, p), index, p)
			}
		}
	}
}

// 8.2, 5.1: a way that may not be is bad, though its root is the one that is asked.
func TestCheckMayNotBe(t *testing.T) {
	for _, index := range indexes() {
		for _, s := range []struct {
			name string
			p    api.Proof
		}{
			{"257 sides, empty", api.Proof{Sides: chances(257)}},
			{"257 sides, a leaf", api.Proof{Sides: chances(257), End: api.EndLeaf, Index: index, Value: chance(1)}},
			{"300 sides, a leaf", api.Proof{Sides: chances(300), End: api.EndLeaf, Index: index, Value: chance(1)}},
			{"no end", api.Proof{End: 2}},
			{"no end, below nought", api.Proof{End: -1}},
			{"no end, that wraps round", api.Proof{End: math.MinInt}},
			{"no end, with sides", api.Proof{Sides: chances(3), End: 2}},
			{"no end, with a leaf", api.Proof{Sides: chances(3), End: 2, Index: index, Value: chance(1)}},
			{"empty, with an Index", api.Proof{Index: chance(1)}},
			{"empty, with a Value", api.Proof{Value: chance(1)}},
			{"empty, with a leaf", api.Proof{Sides: chances(4), Index: index, Value: chance(1)}},
		} {
			mustBeBad(t, s.name, rootOf(index, s.p), index, s.p)
		}
	}
}

// 8.2: no way leads from another root, not from one of which a single bit is another one, and not from what lies on the way.
func TestCheckAnotherRoot(t *testing.T) {
	for _, n := range []int{0, 1, 5, 256} {
		for _, index := range indexes() {
			for _, p := range []api.Proof{
				{Sides: chances(n)},
				{Sides: chances(n), End: api.EndLeaf, Index: index, Value: chance(1)},
			} {
				root := rootOf(index, p)
				for _, bit := range []int{0, 1, 7, 8, 100, 248, 255} {
					mustBeBad(t, "one bit", turned(root, bit), index, p)
				}
				mustBeBad(t, "noughts", api.Digest{}, index, p)
				mustBeBad(t, "the index", index, index, p)
				mustBeBad(t, "the value", p.Value, index, p)
				for i, side := range p.Sides {
					if i < 5 {
						mustBeBad(t, "a side", side, index, p)
						mustBeBad(t, "what is below", sha256.Sum256(textsOf(index, p, 0)[i+1]), index, p)
					}
				}
			}
		}
	}
}

// forest is trees of many shapes: without leaves, with one, flat, and as deep as may be.
func forest() map[string]*tree.Tree {
	deep := []api.Digest{chance(1), turned(chance(1), 255), turned(chance(1), 254), turned(chance(1), 100)}
	off := []api.Digest{{}, {31: 1}, {0x40}, {0x20}}
	on := []api.Digest{filled(0xff), turned(filled(0xff), 255), turned(filled(0xff), 8)}
	trees := map[string]*tree.Tree{}
	for name, l := range map[string][]api.Digest{
		"none": nil, "one": {chance(1)}, "one of noughts": {{}}, "two": {{}, {0x80}}, "deep": deep, "off": off, "on": on,
		"many": chances(50), "all": slices.Concat(chances(9), deep, off, on),
	} {
		trees[name] = tree.Of(l, chances(3000 + len(l))[3000:])
	}
	return trees
}

// near is indexes to ask a tree for: those of its leaves, those that part from one at some bit, and others.
func near(x *tree.Tree) []api.Digest {
	l := indexes()
	for index := range x.All() {
		l = append(l, index)
		if len(l) < 200 {
			for _, bit := range []int{0, 1, 2, 5, 7, 8, 100, 128, 254, 255} {
				l = append(l, turned(index, bit))
			}
		}
	}
	return l
}

// 8.3: what a tree proves is what it has, of indexes that are there and of those that are not.
func TestTreeProvesWhatItHas(t *testing.T) {
	for name, x := range forest() {
		for _, index := range near(x) {
			value, there := x.Get(index)
			mustProve(t, name, x.Root(), index, x.Prove(index), value, there)
		}
	}
}

// 8.3: a way that is told for another index proves what the tree has, or nothing.
func TestWayToAnotherIndex(t *testing.T) {
	for name, x := range forest() {
		l := near(x)
		for _, index := range l[:min(len(l), 25)] {
			p := x.Prove(index)
			for _, other := range l {
				value, there := x.Get(other)
				if v, ok, e := Check(x.Root(), other, p); e == api.OK && (v != value || ok != there) {
					t.Errorf("%s: the way to %x proves %x, %v of %x", name, index, v, ok, other)
				}
			}
		}
	}
}

// changed is ways of which something is another one.
func changed(index api.Digest, p api.Proof) map[string]api.Proof {
	with := func(sides []api.Digest, end int, index, value api.Digest) api.Proof {
		return api.Proof{Sides: sides, End: end, Index: index, Value: value}
	}
	bad := map[string]api.Proof{
		"one side more at the end":     with(slices.Concat(p.Sides, chances(1)), p.End, p.Index, p.Value),
		"one side more at the root":    with(slices.Concat(chances(1), p.Sides), p.End, p.Index, p.Value),
		"a side of noughts at the end": with(slices.Concat(p.Sides, make([]api.Digest, 1)), p.End, p.Index, p.Value),
		"an end that may not be":       with(p.Sides, 2, p.Index, p.Value),
	}
	for _, bit := range []int{0, 77, 255} {
		bad["another Index, bit "+strconv.Itoa(bit)] = with(p.Sides, p.End, turned(p.Index, bit), p.Value)
		bad["another Value, bit "+strconv.Itoa(bit)] = with(p.Sides, p.End, p.Index, turned(p.Value, bit))
		for i := range p.Sides {
			if i < 4 || i >= len(p.Sides)-4 {
				sides := slices.Clone(p.Sides)
				sides[i] = turned(sides[i], bit)
				bad["side "+strconv.Itoa(i)+", bit "+strconv.Itoa(bit)] = with(sides, p.End, p.Index, p.Value)
			}
		}
	}
	if n := len(p.Sides); n > 0 {
		bad["without the first side"] = with(p.Sides[1:], p.End, p.Index, p.Value)
		bad["without the last side"] = with(p.Sides[:n-1], p.End, p.Index, p.Value)
		bad["without sides"] = with(nil, p.End, p.Index, p.Value)
		sides := slices.Clone(p.Sides)
		if sides[0], sides[n-1] = sides[n-1], sides[0]; sides[0] != sides[n-1] {
			bad["sides that changed places"] = with(sides, p.End, p.Index, p.Value)
		}
	}
	if p.End == api.EndLeaf {
		bad["empty in place of a leaf"] = with(p.Sides, api.EndEmpty, api.Digest{}, api.Digest{})
		bad["empty, its leaf kept"] = with(p.Sides, api.EndEmpty, p.Index, p.Value)
		bad["Index and Value at each other's place"] = with(p.Sides, p.End, p.Value, p.Index)
	} else {
		bad["a leaf in place of nothing"] = with(p.Sides, api.EndLeaf, index, chance(1))
		bad["a leaf of noughts in place of nothing"] = with(p.Sides, api.EndLeaf, api.Digest{}, api.Digest{})
	}
	return bad
}

// 8.3: a way of which something is another one is not taken by the root that it came from.
func TestChangedWays(t *testing.T) {
	for name, x := range forest() {
		l := near(x)
		for _, index := range l[:min(len(l), 30)] {
			for what, p := range changed(index, x.Prove(index)) {
				mustBeBad(t, name+", "+what, x.Root(), index, p)
			}
		}
	}
}

// 8.3: a leaf's digest is not taken for a tree's of two, though both are of 65 bytes.
func TestLeafIsNoNode(t *testing.T) {
	x := tree.Empty().Put(chance(1), chance(2))
	for _, index := range indexes() {
		mustBeBad(t, "a way through a leaf, off", x.Root(), index, api.Proof{Sides: []api.Digest{chance(2)}})
		mustBeBad(t, "a way through a leaf, on", x.Root(), index, api.Proof{Sides: []api.Digest{chance(1)}})
	}
}

// R3: what is handed in stays as it was, and what lies behind a list's length is not read.
func TestHandedInStays(t *testing.T) {
	for _, n := range []int{0, 1, 5, 256, 257} {
		for _, end := range []int{0, 1, 2} {
			index := chance(7)
			room := chances(n + 3)
			p := api.Proof{Sides: room[:n], End: end, Index: chance(8), Value: chance(9)}
			clipped := api.Proof{Sides: chances(n), End: end, Index: chance(8), Value: chance(9)}
			root := Root(index, p)
			if root != rootOf(index, clipped) {
				t.Errorf("%d sides, end %d: another root", n, end)
			}
			if !sameTexts(Hashed(index, p), textsOf(index, clipped, 0)) {
				t.Errorf("%d sides, end %d: another list of texts", n, end)
			}
			Check(root, index, p)
			if !slices.Equal(room, chances(n+3)) {
				t.Errorf("%d sides, end %d: what was handed in is another one", n, end)
			}
		}
	}
}

// R3: what is told is new memory: no text shares any with another one, with what was handed in, or with what is told later.
func TestNewMemory(t *testing.T) {
	index := chance(7)
	p := api.Proof{Sides: chances(6), End: api.EndLeaf, Index: index, Value: chance(9)}
	want := textsOf(index, p, 0)
	first, second := Hashed(index, p), Hashed(index, p)
	for i, text := range first {
		_ = append(text, "behind it"...)
		clear(text)
		for k, other := range first {
			if k > i && !bytes.Equal(other, want[k]) {
				t.Errorf("text %d shares memory with text %d", k, i)
			}
		}
	}
	_ = append(first, []byte("behind it"))
	clear(first)
	if !sameTexts(second, want) || !sameTexts(Hashed(index, p), want) {
		t.Error("what was told later shares memory with what was told first")
	}
	if !slices.Equal(p.Sides, chances(6)) {
		t.Error("what was told shares memory with what was handed in")
	}
	clear(p.Sides)
	if !sameTexts(second, want) {
		t.Error("what was handed in is kept")
	}
}

// P1: each call ends and none panics, on ways that are much too long, and with zero values.
func TestLongWays(t *testing.T) {
	p := api.Proof{Sides: make([]api.Digest, 20000)}
	texts := Hashed(filled(0xff), p)
	if len(texts) != 20001 {
		t.Fatalf("%d texts", len(texts))
	}
	if Root(filled(0xff), p) != sha256.Sum256(texts[0]) {
		t.Error("another root than that of the first text")
	}
	mustBeBad(t, "much too long", Root(filled(0xff), p), filled(0xff), p)
	mustBeBad(t, "all noughts", api.Digest{}, api.Digest{}, api.Proof{})
}

// P7: what is told hangs on what is handed in alone.
func TestAlike(t *testing.T) {
	for _, p := range ways() {
		index := chance(3)
		again := api.Proof{Sides: slices.Clone(p.Sides), End: p.End, Index: p.Index, Value: p.Value}
		root := Root(index, p)
		value, there, e := Check(root, index, p)
		if v, ok, e2 := Check(Root(index, again), index, again); v != value || ok != there || e2 != e {
			t.Errorf("%d sides, end %d: told twice, unlike", len(p.Sides), p.End)
		}
		if !sameTexts(Hashed(index, p), Hashed(index, again)) {
			t.Errorf("%d sides, end %d: texts told twice, unlike", len(p.Sides), p.End)
		}
	}
}
