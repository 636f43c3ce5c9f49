package tree

import (
	"bytes"
	"crypto/sha256"
	"encoding/hex"
	"math/rand"
	"slices"
	"strconv"
	"sync"
	"testing"

	"blazon/api"
)

// leaf is what a tree has, as the tests keep it: in lists, by rising indexes.
type leaf struct {
	index, value api.Digest
}

// filled is 32 bytes, all of them that one.
func filled(b byte) api.Digest {
	return api.Digest(bytes.Repeat([]byte{b}, 32))
}

// chance is a digest that is like chance, but the same one each time.
func chance(i int) api.Digest {
	return sha256.Sum256([]byte(strconv.Itoa(i)))
}

// bitOf is a digest's bit, counted from the highest one of the first byte on.
func bitOf(d api.Digest, i int) bool {
	return d[i/8]>>(7-i%8)&1 == 1
}

// turned is a digest of which that bit is the other one.
func turned(d api.Digest, i int) api.Digest {
	d[i/8] ^= 1 << (7 - i%8)
	return d
}

// put is leaves with one more, in its order, in place of the one of its index.
func put(l []leaf, x leaf) []leaf {
	at, there := slices.BinarySearchFunc(l, x, func(a, b leaf) int { return bytes.Compare(a.index[:], b.index[:]) })
	if there {
		l = slices.Clone(l)
		l[at] = x
		return l
	}
	return slices.Insert(slices.Clone(l), at, x)
}

// inOrder is leaves that were put one behind the other.
func inOrder(l []leaf) []leaf {
	var all []leaf
	for _, x := range l {
		all = put(all, x)
	}
	return all
}

// hashed is the digest of a sign and of digests behind it.
func hashed(sign string, l ...api.Digest) api.Digest {
	b := []byte(sign)
	for _, d := range l {
		b = append(b, d[:]...)
	}
	return sha256.Sum256(b)
}

// side is those leaves whose bit is so.
func side(l []leaf, bit int, on bool) []leaf {
	var some []leaf
	for _, x := range l {
		if bitOf(x.index, bit) == on {
			some = append(some, x)
		}
	}
	return some
}

// rootOf is 7.1, word by word.
func rootOf(l []leaf, bits int) api.Digest {
	switch len(l) {
	case 0:
		return hashed("E")
	case 1:
		return hashed("L", l[0].index, l[0].value)
	}
	return hashed("N", rootOf(side(l, bits, false), bits+1), rootOf(side(l, bits, true), bits+1))
}

// wayOf is 7.4, word by word.
func wayOf(l []leaf, index api.Digest) api.Proof {
	var p api.Proof
	for bit := 0; len(l) >= 2; bit++ {
		on := bitOf(index, bit)
		p.Sides = append(p.Sides, rootOf(side(l, bit, !on), bit+1))
		l = side(l, bit, on)
	}
	if len(l) == 0 {
		return api.Proof{Sides: p.Sides, End: 0}
	}
	return api.Proof{Sides: p.Sides, End: 1, Index: l[0].index, Value: l[0].value}
}

// sameWay tells whether two ways are the same.
func sameWay(a, b api.Proof) bool {
	return slices.Equal(a.Sides, b.Sides) && a.End == b.End && a.Index == b.Index && a.Value == b.Value
}

// ledTo is the root that a way leads from.
func ledTo(index api.Digest, p api.Proof) api.Digest {
	d := hashed("E")
	if p.End == 1 {
		d = hashed("L", p.Index, p.Value)
	}
	for i := len(p.Sides) - 1; i >= 0; i-- {
		if bitOf(index, i) {
			d = hashed("N", p.Sides[i], d)
		} else {
			d = hashed("N", d, p.Sides[i])
		}
	}
	return d
}

// leavesOf is what All goes over.
func leavesOf(x *Tree) []leaf {
	var l []leaf
	for index, value := range x.All() {
		l = append(l, leaf{index, value})
	}
	return l
}

// puts is a tree to which leaves were put, one behind the other.
func puts(l []leaf) *Tree {
	x := Empty()
	for _, y := range l {
		x = x.Put(y.index, y.value)
	}
	return x
}

// lists is leaves as two lists.
func lists(l []leaf) (indexes, values []api.Digest) {
	for _, x := range l {
		indexes, values = append(indexes, x.index), append(values, x.value)
	}
	return indexes, values
}

// ofLists is the tree of leaves that are handed in at once.
func ofLists(l []leaf) *Tree {
	return Of(lists(l))
}

// numbered is leaves at those indexes, with values of their own.
func numbered(indexes ...api.Digest) []leaf {
	var l []leaf
	for i, d := range indexes {
		l = append(l, leaf{d, chance(1000 + i)})
	}
	return l
}

// sample is a name, and leaves of unlike indexes, in no order.
type sample struct {
	name string
	l    []leaf
}

// samples is trees of many shapes: flat, deep, to one side, full.
func samples() []sample {
	var single, all, deep, below, many []api.Digest
	for i := 0; i < 256; i += 15 {
		single = append(single, turned(api.Digest{}, i))
	}
	for i := range 64 {
		all = append(all, api.Digest{byte(i * 77 << 2), 1, 2})
	}
	for i := range 8 {
		deep = append(deep, turned(filled(0x5a), 255-i))
		below = append(below, turned(filled(0xff), 8*i))
	}
	for i := range 60 {
		many = append(many, chance(i))
	}
	return []sample{
		{"none", nil},
		{"one", numbered(chance(1))},
		{"one whose index is nought", numbered(api.Digest{})},
		{"one whose index is all on", numbered(filled(0xff))},
		{"the first and the last index", numbered(filled(0xff), api.Digest{})},
		{"three", numbered(api.Digest{0xc0}, api.Digest{0x80}, api.Digest{1})},
		{"four of one half", numbered(api.Digest{0x40}, api.Digest{0x60}, api.Digest{0}, api.Digest{0x20})},
		{"one bit each", numbered(single...)},
		{"all of six bits", numbered(all...)},
		{"alike up to the last byte", numbered(deep...)},
		{"alike up to a byte's first bit", numbered(below...)},
		{"like chance", numbered(many...)},
		{"some of all", numbered(slices.Concat(many[:9], deep, single[:3], single[15:])...)},
	}
}

// asked is indexes to ask for: those of the leaves, those that part from one at some bit, and some that are like chance.
func asked(l []leaf) []api.Digest {
	some := []api.Digest{{}, filled(0xff), {0x80}, {0x7f}, {31: 1}, filled(0x5a), chance(5000), chance(5001), chance(5002), chance(5003)}
	for k, x := range l {
		some = append(some, x.index)
		if k%32 == 0 {
			for _, i := range []int{0, 1, 6, 7, 8, 9, 127, 128, 247, 248, 254, 255} {
				some = append(some, turned(x.index, i))
			}
		}
	}
	return some
}

// has tells whether leaves have one of that index, and which.
func has(l []leaf, index api.Digest) (api.Digest, bool) {
	for _, x := range l {
		if x.index == index {
			return x.value, true
		}
	}
	return api.Digest{}, false
}

// mustBe asks a tree for all that it can tell: it must be the one of those leaves, which stand in order.
func mustBe(t *testing.T, name string, x *Tree, l []leaf) {
	t.Helper()
	if x == nil {
		t.Fatalf("%s: nil", name)
	}
	if x.Len() != len(l) {
		t.Errorf("%s: %d leaves, want %d", name, x.Len(), len(l))
	}
	root := rootOf(l, 0)
	if x.Root() != root {
		t.Errorf("%s: root %x, want %x", name, x.Root(), root)
	}
	if got := leavesOf(x); !slices.Equal(got, l) {
		t.Errorf("%s: leaves %x, want %x", name, got, l)
	}
	for _, index := range asked(l) {
		value, there := has(l, index)
		if got, ok := x.Get(index); ok != there || got != value {
			t.Errorf("%s: at %x %x, %v, want %x, %v", name, index, got, ok, value, there)
		}
		p := x.Prove(index)
		if !sameWay(p, wayOf(l, index)) {
			t.Errorf("%s: way to %x: %x, want %x", name, index, p, wayOf(l, index))
		}
		if ledTo(index, p) != root {
			t.Errorf("%s: way to %x leads from another root", name, index)
		}
	}
}

// 7.1, 7.2: the chapter's examples, and digests that were worked out elsewhere.
func TestExamples(t *testing.T) {
	e := Empty()
	if got := e.Root(); hex.EncodeToString(got[:]) != "a9f51566bd6705f7ea6ad54bb9deb449f795582d6529a0e22207b8981233ec58" {
		t.Errorf("root of no leaves: %x", got)
	}
	one := e.Put(api.Digest{1}, api.Digest{7})
	a := api.Digest(sha256.Sum256(slices.Concat([]byte{'L', 1}, make([]byte, 31), []byte{7}, make([]byte, 31))))
	if one.Root() != a {
		t.Errorf("root of one leaf: %x, want %x", one.Root(), a)
	}
	b := api.Digest(sha256.Sum256(slices.Concat([]byte{'L', 0x80}, make([]byte, 31), []byte{8}, make([]byte, 31))))
	two := api.Digest(sha256.Sum256(slices.Concat([]byte("N"), a[:], b[:])))
	if got := one.Put(api.Digest{0x80}, api.Digest{8}).Root(); got != two {
		t.Errorf("root of two leaves: %x, want %x", got, two)
	}
	if got := e.Put(api.Digest{0x80}, api.Digest{8}).Put(api.Digest{1}, api.Digest{7}).Root(); got != two {
		t.Errorf("root of two leaves, put the other way round: %x, want %x", got, two)
	}
}

// 7.1 to 7.4: trees of all shapes, put leaf by leaf or handed in at once, are those of their leaves.
func TestAllShapes(t *testing.T) {
	for _, s := range samples() {
		l := inOrder(s.l)
		mustBe(t, s.name+", put", puts(s.l), l)
		mustBe(t, s.name+", of lists", ofLists(s.l), l)
	}
}

// 7.1, 7.4: two leaves that part at a bit stand below as many trees of which one side has none, whichever is put first.
func TestTwoThatPart(t *testing.T) {
	for _, first := range []api.Digest{{}, filled(0xff), chance(7)} {
		for bit := range 256 {
			second := turned(first, bit)
			a, b := hashed("L", first, filled(1)), hashed("L", second, filled(2))
			off, on := a, b
			if bitOf(first, bit) {
				off, on = b, a
			}
			root := hashed("N", off, on)
			for i := bit - 1; i >= 0; i-- {
				if bitOf(first, i) {
					root = hashed("N", hashed("E"), root)
				} else {
					root = hashed("N", root, hashed("E"))
				}
			}
			for _, x := range []*Tree{
				Empty().Put(first, filled(1)).Put(second, filled(2)),
				Empty().Put(second, filled(2)).Put(first, filled(1)),
				Of([]api.Digest{first, second}, []api.Digest{filled(1), filled(2)}),
				Of([]api.Digest{second, first}, []api.Digest{filled(2), filled(1)}),
			} {
				if x.Root() != root || x.Len() != 2 {
					t.Fatalf("%x, parted at %d: %d leaves, root %x, want %x", first, bit, x.Len(), x.Root(), root)
				}
				p := x.Prove(first)
				if len(p.Sides) != bit+1 || p.Sides[bit] != b || p.End != api.EndLeaf || p.Index != first || p.Value != filled(1) {
					t.Fatalf("%x, parted at %d: way %x", first, bit, p)
				}
				if i := slices.IndexFunc(p.Sides[:bit], func(d api.Digest) bool { return d != hashed("E") }); i >= 0 {
					t.Fatalf("%x, parted at %d: side %d is %x", first, bit, i, p.Sides[i])
				}
			}
		}
	}
}

// 7.2: Empty is without leaves, each time anew.
func TestEmpty(t *testing.T) {
	x := Empty()
	mustBe(t, "empty", x, nil)
	x.Put(chance(1), chance(2))
	Of([]api.Digest{chance(3)}, []api.Digest{chance(4)})
	mustBe(t, "empty, put to", x, nil)
	mustBe(t, "empty, made again", Empty(), nil)
}

// 7.2: what is put stands in place of the leaf of its index; all others stay.
func TestPutInPlace(t *testing.T) {
	for _, s := range samples() {
		l, x := inOrder(s.l), ofLists(s.l)
		for k, y := range l {
			if k%30 != 0 && k != len(l)-1 {
				continue
			}
			mustBe(t, s.name+", the same once more", x.Put(y.index, y.value), l)
			mustBe(t, s.name+", another value", x.Put(y.index, filled(0xee)), put(l, leaf{y.index, filled(0xee)}))
			mustBe(t, s.name+", to and fro", x.Put(y.index, filled(0xee)).Put(y.index, y.value), l)
			mustBe(t, s.name+", nought", x.Put(y.index, api.Digest{}), put(l, leaf{y.index, api.Digest{}}))
		}
		mustBe(t, s.name, x, l)
	}
}

// 7.2: an index and a value that are noughts are a leaf like any other.
func TestNoughtsAreALeaf(t *testing.T) {
	x := Empty().Put(api.Digest{}, api.Digest{})
	mustBe(t, "noughts", x, []leaf{{}})
	if _, ok := Empty().Get(api.Digest{}); ok {
		t.Error("a tree without leaves has one")
	}
	if _, ok := x.Get(api.Digest{}); !ok {
		t.Error("the leaf of noughts is not there")
	}
	if p := x.Prove(api.Digest{}); p.End != api.EndLeaf {
		t.Errorf("the way to the leaf of noughts: %x", p)
	}
}

// 7.2: Of goes as far as both lists go.
func TestOfUnlikeLengths(t *testing.T) {
	indexes, values := lists(numbered(chance(1), chance(2), chance(3), chance(4), chance(5)))
	for i := range 6 {
		for k := range 6 {
			var l []leaf
			for n := range min(i, k) {
				l = put(l, leaf{indexes[n], values[n]})
			}
			mustBe(t, strconv.Itoa(i)+" indexes, "+strconv.Itoa(k)+" values", Of(indexes[:i], values[:k]), l)
		}
	}
	mustBe(t, "no lists", Of(nil, nil), nil)
	mustBe(t, "lists without elements", Of([]api.Digest{}, []api.Digest{}), nil)
	mustBe(t, "no indexes", Of(nil, values), nil)
	mustBe(t, "no values", Of(indexes, nil), nil)
}

// 7.2: of the values that Of is given for one index, the last one stands.
func TestOfOneIndexOftener(t *testing.T) {
	a, b, c := chance(1), chance(2), turned(chance(1), 255)
	for _, s := range []struct {
		name    string
		indexes []api.Digest
	}{
		{"twice", []api.Digest{a, a}},
		{"three times", []api.Digest{a, a, a}},
		{"around another one", []api.Digest{a, b, a}},
		{"by turns", []api.Digest{a, b, a, b, c, a, c, b}},
		{"the last ones", []api.Digest{b, c, a, a}},
		{"the first ones", []api.Digest{a, a, c, b}},
		{"all off", []api.Digest{{}, {}, b, {}}},
	} {
		l := numbered(s.indexes...)
		mustBe(t, s.name, ofLists(l), inOrder(l))
		mustBe(t, s.name+", put", puts(l), inOrder(l))
	}
	var l []leaf
	for i := range 300 {
		l = append(l, leaf{chance(i * i % 23), chance(2000 + i)})
	}
	mustBe(t, "many", ofLists(l), inOrder(l))
}

// 7.2, R3: what is handed in stays as it was, is not kept, and what lies behind a list's length is not read.
func TestHandedInStays(t *testing.T) {
	for _, s := range samples() {
		indexes, values := lists(s.l)
		n := len(indexes)
		indexes, values = append(indexes, filled(0x11), filled(0x22)), append(values, filled(0x33), filled(0x44))
		wasIndexes, wasValues := slices.Clone(indexes), slices.Clone(values)
		x := Of(indexes[:n], values[:n])
		if !slices.Equal(indexes, wasIndexes) || !slices.Equal(values, wasValues) {
			t.Errorf("%s: what was handed in is another one", s.name)
		}
		for i := range indexes {
			indexes[i], values[i] = filled(0x77), filled(0x88)
		}
		mustBe(t, s.name, x, inOrder(s.l))
	}
}

// 7.3: how many leaves there are, one by one.
func TestLen(t *testing.T) {
	x := Empty()
	for i := range 300 {
		if x.Len() != i {
			t.Fatalf("%d leaves, want %d", x.Len(), i)
		}
		x = x.Put(chance(i), chance(i))
		if again := x.Put(chance(i/2), filled(9)); again.Len() != i+1 {
			t.Fatalf("one in place: %d leaves, want %d", again.Len(), i+1)
		}
	}
}

// 7.3: of an index that parts from a leaf's anywhere nothing is there, and nothing is told.
func TestGetOfNoLeaf(t *testing.T) {
	for _, s := range samples() {
		x := ofLists(s.l)
		for k, y := range s.l {
			if k > 10 {
				break
			}
			for bit := range 256 {
				index := turned(y.index, bit)
				if _, there := has(s.l, index); there {
					continue
				}
				if value, ok := x.Get(index); ok || value != (api.Digest{}) {
					t.Fatalf("%s: at %x %x, %v", s.name, index, value, ok)
				}
			}
		}
	}
}

// 7.3: All is left wherever who goes over it will; nothing is yielded behind that.
func TestAllLeft(t *testing.T) {
	for _, s := range samples() {
		l, x := inOrder(s.l), ofLists(s.l)
		for last := range len(l) {
			var seen []leaf
			x.All()(func(index, value api.Digest) bool {
				seen = append(seen, leaf{index, value})
				return len(seen) != last+1
			})
			if !slices.Equal(seen, l[:last+1]) {
				t.Errorf("%s, left at %d: %x", s.name, last, seen)
			}
			n := 0
			for range x.All() {
				if n++; n == last+1 {
					break
				}
			}
			if n != last+1 {
				t.Errorf("%s, left at %d by break: %d", s.name, last, n)
			}
		}
	}
}

// 7.3: indexes rise, each stands once.
func TestAllRises(t *testing.T) {
	for _, s := range samples() {
		var ahead *api.Digest
		for index := range puts(s.l).All() {
			if ahead != nil && string(ahead[:]) >= string(index[:]) {
				t.Errorf("%s: %x stands behind %x", s.name, index, *ahead)
			}
			ahead = &index
		}
	}
}

// 7.3, P7: one All may be gone over again, begun in the midst of itself, and left ahead of that, whatever is put meanwhile.
func TestAllAgain(t *testing.T) {
	for _, s := range samples() {
		l, x := inOrder(s.l), ofLists(s.l)
		all := x.All()
		whole := func() []leaf {
			var seen []leaf
			for index, value := range all {
				seen = append(seen, leaf{index, value})
			}
			return seen
		}
		for range all {
			break
		}
		var seen []leaf
		for index, value := range all {
			seen = append(seen, leaf{index, value})
			x.Put(index, filled(3)).Put(turned(index, 0), filled(4))
			if len(seen)%40 == 1 && !slices.Equal(whole(), l) {
				t.Errorf("%s: begun in the midst, at %d", s.name, len(seen))
			}
		}
		if !slices.Equal(seen, l) || !slices.Equal(whole(), l) {
			t.Errorf("%s: gone over again: %x", s.name, seen)
		}
	}
}

// 7.4: how ways end, written out.
func TestProveEnds(t *testing.T) {
	a, b, c := api.Digest{0x00, 1}, api.Digest{0x80, 2}, api.Digest{0xa0, 3}
	leafA, leafB, leafC := hashed("L", a, filled(1)), hashed("L", b, filled(2)), hashed("L", c, filled(3))
	none, one := Empty(), Empty().Put(b, filled(2))
	three := one.Put(a, filled(1)).Put(c, filled(3)) // b and c part at their third bit
	e := hashed("E")
	for _, s := range []struct {
		name  string
		x     *Tree
		index api.Digest
		p     api.Proof
	}{
		{"no leaves", none, a, api.Proof{}},
		{"no leaves, noughts", none, api.Digest{}, api.Proof{}},
		{"one, itself", one, b, api.Proof{End: 1, Index: b, Value: filled(2)}},
		{"one, another one", one, a, api.Proof{End: 1, Index: b, Value: filled(2)}},
		{"alone at its side", three, a, api.Proof{Sides: []api.Digest{hashed("N", hashed("N", leafB, leafC), e)}, End: 1, Index: a, Value: filled(1)}},
		{"another one at its side", three, filled(0x7f), api.Proof{Sides: []api.Digest{hashed("N", hashed("N", leafB, leafC), e)}, End: 1, Index: a, Value: filled(1)}},
		{"nothing at its side", three, filled(0xff), api.Proof{Sides: []api.Digest{leafA, hashed("N", leafB, leafC)}}},
		{"below, itself", three, c, api.Proof{Sides: []api.Digest{leafA, e, leafB}, End: 1, Index: c, Value: filled(3)}},
		{"below, the one beside", three, b, api.Proof{Sides: []api.Digest{leafA, e, leafC}, End: 1, Index: b, Value: filled(2)}},
		{"below, another one", three, api.Digest{0x9f}, api.Proof{Sides: []api.Digest{leafA, e, leafC}, End: 1, Index: b, Value: filled(2)}},
	} {
		if p := s.x.Prove(s.index); !sameWay(p, s.p) {
			t.Errorf("%s: %x, want %x", s.name, p, s.p)
		}
	}
}

// 7.4: an index that parts from two deep leaves ends at the first tree without leaves.
func TestProveLeavesADeepWay(t *testing.T) {
	first := filled(0x3c)
	x := Empty().Put(first, filled(1)).Put(turned(first, 255), filled(2))
	for bit := range 255 {
		p := x.Prove(turned(first, bit))
		if len(p.Sides) != bit+1 || p.End != api.EndEmpty || p.Index != (api.Digest{}) || p.Value != (api.Digest{}) || ledTo(turned(first, bit), p) != x.Root() {
			t.Errorf("parted at %d: %d sides, %x", bit, len(p.Sides), p)
		}
	}
}

// 7.4, R3: a way is new memory: what becomes of it changes neither the tree nor another way.
func TestProveHandsOutNewMemory(t *testing.T) {
	for _, s := range samples() {
		l, x := inOrder(s.l), ofLists(s.l)
		for _, index := range asked(l)[:10] {
			p, q := x.Prove(index), x.Prove(index)
			p.Sides = append(p.Sides, filled(0x99))
			for i := range p.Sides[:cap(p.Sides)] {
				p.Sides[:cap(p.Sides)][i] = filled(0x99)
			}
			if !sameWay(q, wayOf(l, index)) || !sameWay(x.Prove(index), wayOf(l, index)) {
				t.Errorf("%s: way to %x shares memory", s.name, index)
			}
		}
	}
}

// 7.5: each tree stays as it was when it was made, whatever is put to it and to those made of it.
func TestTreesStay(t *testing.T) {
	chosen := rand.New(rand.NewSource(7))
	trees, leaves := []*Tree{Empty()}, [][]leaf{nil}
	for i := range 120 {
		from := chosen.Intn(len(trees))
		index := chance(chosen.Intn(30))
		switch i % 4 {
		case 1:
			index = turned(filled(0x5a), 255-chosen.Intn(12))
		case 2:
			index = turned(api.Digest{}, chosen.Intn(256))
		case 3:
			from = len(trees) - 1
		}
		trees = append(trees, trees[from].Put(index, chance(3000+i)))
		leaves = append(leaves, put(leaves[from], leaf{index, chance(3000 + i)}))
	}
	for i, x := range trees {
		mustBe(t, "tree "+strconv.Itoa(i), x, leaves[i])
	}
}

// 7.5: what was asked of a tree ahead of a Put is answered alike behind it.
func TestPutLeavesTheTreeAlone(t *testing.T) {
	for _, s := range samples() {
		x := puts(s.l)
		root, all, way := x.Root(), leavesOf(x), x.Prove(chance(5000))
		for k, y := range s.l {
			x.Put(y.index, filled(0xdd))
			x.Put(turned(y.index, k%256), filled(0xcc)).Put(turned(y.index, 255), filled(0xbb))
		}
		if x.Root() != root || !slices.Equal(leavesOf(x), all) || !sameWay(x.Prove(chance(5000)), way) || x.Len() != len(all) {
			t.Errorf("%s: the tree is another one", s.name)
		}
	}
}

// orders hands out all orders of leaves.
func orders(l []leaf, each func([]leaf)) {
	var swap func(n int)
	swap = func(n int) {
		if n == len(l) {
			each(l)
			return
		}
		for i := n; i < len(l); i++ {
			l[n], l[i] = l[i], l[n]
			swap(n + 1)
			l[n], l[i] = l[i], l[n]
		}
	}
	swap(0)
}

// 7.5: all orders of a few leaves, flat and deep ones.
func TestOrderPlaysNoPart(t *testing.T) {
	d := filled(0x5a)
	l := numbered(d, turned(d, 255), turned(d, 254), turned(d, 8), turned(d, 0))
	all := inOrder(l)
	mustBe(t, "in order", puts(all), all)
	root := rootOf(all, 0)
	orders(l, func(l []leaf) {
		for _, x := range []*Tree{puts(l), ofLists(l), Of(lists(l[:2])).Put(l[2].index, l[2].value).Put(l[3].index, l[3].value).Put(l[4].index, l[4].value)} {
			if x.Root() != root || !slices.Equal(leavesOf(x), all) || !sameWay(x.Prove(turned(d, 253)), wayOf(all, turned(d, 253))) {
				t.Errorf("%x: root %x, want %x", l, x.Root(), root)
			}
		}
	})
}

// 7.5: many leaves in many orders.
func TestOrderOfManyPlaysNoPart(t *testing.T) {
	chosen := rand.New(rand.NewSource(5))
	for _, s := range samples() {
		all := inOrder(s.l)
		root := rootOf(all, 0)
		for range 4 {
			l := slices.Clone(s.l)
			chosen.Shuffle(len(l), func(i, k int) { l[i], l[k] = l[k], l[i] })
			if x := puts(l); x.Root() != root || !slices.Equal(leavesOf(x), all) {
				t.Errorf("%s, put: root %x, want %x", s.name, x.Root(), root)
			}
			if x := ofLists(l); x.Root() != root || !slices.Equal(leavesOf(x), all) {
				t.Errorf("%s, of lists: root %x, want %x", s.name, x.Root(), root)
			}
		}
	}
}

// 7.5, P7: one tree may be asked, and put to, by many at the same time.
func TestManyAtOnce(t *testing.T) {
	l := numbered(chance(1), chance(2), chance(3), turned(chance(3), 20))
	x := ofLists(l)
	var all sync.WaitGroup
	for i := range 8 {
		all.Go(func() {
			more := leaf{chance(50 + i), filled(byte(i))}
			mustBe(t, "at once", x.Put(more.index, more.value), put(inOrder(l), more))
			mustBe(t, "at once, as it was", x, inOrder(l))
		})
	}
	all.Wait()
}

// P1: a Tree that no call has made has no leaves, and takes some.
func TestTreeOfNoCall(t *testing.T) {
	var x Tree
	mustBe(t, "of no call", &x, nil)
	mustBe(t, "of no call, put to", x.Put(chance(1), chance(2)), []leaf{{chance(1), chance(2)}})
	mustBe(t, "of no call, behind that", &x, nil)
}
