package clash

import (
	"bytes"
	"crypto/sha256"
	"math"
	"slices"
	"strconv"
	"testing"

	"blazon/api"
	"blazon/proof"
	"blazon/sha"
	"blazon/tree"
)

// filled is 32 bytes, all of them that one.
func filled(b byte) api.Digest {
	return api.Digest(bytes.Repeat([]byte{b}, 32))
}

// chance is a digest that is like chance, but the same one each time.
func chance(i int) api.Digest {
	return sha256.Sum256([]byte(strconv.Itoa(i)))
}

// chances is so many digests that are like chance, from one on.
func chances(from, n int) []api.Digest {
	var l []api.Digest
	for i := range n {
		l = append(l, chance(from+i))
	}
	return l
}

// turned is a digest of which that bit is the other one.
func turned(d api.Digest, i int) api.Digest {
	d[i/8] ^= 1 << (7 - i%8)
	return d
}

// texts is a list of texts.
func texts(l ...string) [][]byte {
	var out [][]byte
	for _, s := range l {
		out = append(out, []byte(s))
	}
	return out
}

// mustBeNone is of an answer that must tell that there is no pair, and nothing beside that.
func mustBeNone(t *testing.T, name string) func(a, b []byte, ok bool) {
	t.Helper()
	return func(a, b []byte, ok bool) {
		t.Helper()
		if ok || len(a) > 0 || len(b) > 0 {
			t.Errorf("%s: %x, %x, %v; want nothing, and false", name, a, b, ok)
		}
	}
}

// 9.1: the chapter's examples.
func TestExamples(t *testing.T) {
	mustBeNone(t, "a and a")(Pair([]byte("a"), []byte("a")))
	mustBeNone(t, "a and b")(Pair([]byte("a"), []byte("b")))
}

// 9.1: a text and itself are no pair, nor one that is nil and one without bytes: they are the same.
func TestPairOfTheSame(t *testing.T) {
	for _, n := range []int{0, 1, 2, 31, 32, 55, 56, 63, 64, 65, 128, 1000, 1 << 17} {
		text := bytes.Repeat([]byte("x"), n)
		mustBeNone(t, strconv.Itoa(n)+" bytes, twice one memory")(Pair(text, text))
		mustBeNone(t, strconv.Itoa(n)+" bytes")(Pair(text, bytes.Clone(text)))
	}
	mustBeNone(t, "nil twice")(Pair(nil, nil))
	mustBeNone(t, "nil and empty")(Pair(nil, []byte{}))
	mustBeNone(t, "empty and nil")(Pair([]byte{}, nil))
}

// 9.1: unlike texts of unlike digests are no pair, however little tells them apart.
func TestPairOfUnlike(t *testing.T) {
	for _, n := range []int{0, 1, 3, 32, 55, 56, 63, 64, 65, 200} {
		text := bytes.Repeat([]byte("x"), n)
		others := map[string][]byte{
			"a nought more":        append(bytes.Clone(text), 0),
			"a byte more":          append(bytes.Clone(text), 'x'),
			"a byte ahead":         append([]byte{0}, text...),
			"what is hashed of it": append(bytes.Clone(text), sha.Pad(uint64(n))...),
		}
		if n > 0 {
			others["no bytes"] = nil
			others["a byte fewer"] = text[:n-1]
			for _, bit := range []int{0, 4*n + 1, 8*n - 1} {
				other := bytes.Clone(text)
				other[bit/8] ^= 1 << (bit % 8)
				others["bit "+strconv.Itoa(bit)] = other
			}
		}
		d := sha256.Sum256(text)
		others["its digest"] = d[:]
		for name, other := range others {
			mustBeNone(t, strconv.Itoa(n)+" bytes, "+name)(Pair(text, other))
			mustBeNone(t, name+", "+strconv.Itoa(n)+" bytes")(Pair(other, text))
		}
	}
}

// 9.2: lists without elements, of unlike lengths, of the same texts and of others have no pair where no text has another one's digest.
func TestFirstOfNone(t *testing.T) {
	lists := map[string][][]byte{
		"nil":                 nil,
		"no elements":         {},
		"a nil text":          {nil},
		"a text of no bytes":  {{}},
		"two of no bytes":     {{}, nil},
		"a":                   texts("a"),
		"b":                   texts("b"),
		"a, b":                texts("a", "b"),
		"b, a":                texts("b", "a"),
		"a, a":                texts("a", "a"),
		"a, b, c":             texts("a", "b", "c"),
		"a, b, d":             texts("a", "b", "d"),
		"no bytes, b, c":      texts("", "b", "c"),
		"a, no bytes, c":      texts("a", "", "c"),
		"a, b, no bytes":      texts("a", "b", ""),
		"as bytes of one":     texts("ab", "c"),
		"as bytes of another": texts("a", "bc"),
	}
	for name, a := range lists {
		for other, b := range lists {
			mustBeNone(t, name+" and "+other)(First(a, b))
		}
	}
}

// ways is ways of many lengths, with each end; some of them may not be.
func ways() map[string]api.Proof {
	l := map[string]api.Proof{}
	for _, n := range []int{0, 1, 2, 8, 255, 256, 257, 300} {
		name := strconv.Itoa(n) + " sides"
		l[name+", empty"] = api.Proof{Sides: chances(0, n)}
		l[name+", a leaf"] = api.Proof{Sides: chances(0, n), End: api.EndLeaf, Index: chance(1000), Value: chance(1001)}
		l[name+", another leaf"] = api.Proof{Sides: chances(0, n), End: api.EndLeaf, Index: chance(1000), Value: chance(1002)}
		l[name+", a leaf elsewhere"] = api.Proof{Sides: chances(0, n), End: api.EndLeaf, Index: chance(1003), Value: chance(1001)}
		l[name+", a leaf of noughts"] = api.Proof{Sides: chances(0, n), End: api.EndLeaf}
		l[name+" of others, empty"] = api.Proof{Sides: chances(5000, n)}
		l[name+", no end"] = api.Proof{Sides: chances(0, n), End: math.MinInt, Index: chance(1000)}
	}
	return l
}

// 9.3: a way and itself, ways of unlike lengths, with unlike ends, and such as may not be have no pair.
func TestWaysOfNone(t *testing.T) {
	for _, index := range []api.Digest{{}, filled(0xff), filled(0x5a), chance(1000)} {
		for name, p := range ways() {
			again := api.Proof{Sides: slices.Clone(p.Sides), End: p.End, Index: p.Index, Value: p.Value}
			mustBeNone(t, name+", and itself")(Ways(index, p, again))
		}
	}
	for name, p := range ways() {
		for other, q := range ways() {
			if len(p.Sides) < 9 || len(q.Sides) < 9 {
				mustBeNone(t, name+" and "+other)(Ways(filled(0x5a), p, q))
			}
		}
	}
}

// 9.3: a root and itself have no pair, nor has one of which one part is another one, or at another's place.
func TestRootsOfNone(t *testing.T) {
	r := api.Root{Epoch: 7, Prev: chance(1), Tree: chance(2), Next: chance(3)}
	others := map[string]api.Root{
		"itself":          r,
		"nothing":         {},
		"another Epoch":   {Epoch: 8, Prev: r.Prev, Tree: r.Tree, Next: r.Next},
		"a great Epoch":   {Epoch: math.MaxUint64, Prev: r.Prev, Tree: r.Tree, Next: r.Next},
		"no Epoch":        {Prev: r.Prev, Tree: r.Tree, Next: r.Next},
		"Epoch high":      {Epoch: 7 << 56, Prev: r.Prev, Tree: r.Tree, Next: r.Next},
		"another Prev":    {Epoch: 7, Prev: turned(r.Prev, 0), Tree: r.Tree, Next: r.Next},
		"another Tree":    {Epoch: 7, Prev: r.Prev, Tree: turned(r.Tree, 100), Next: r.Next},
		"another Next":    {Epoch: 7, Prev: r.Prev, Tree: r.Tree, Next: turned(r.Next, 255)},
		"Prev and Tree":   {Epoch: 7, Prev: r.Tree, Tree: r.Prev, Next: r.Next},
		"Tree and Next":   {Epoch: 7, Prev: r.Prev, Tree: r.Next, Next: r.Tree},
		"moved on by one": {Epoch: 7, Prev: r.Next, Tree: r.Prev, Next: r.Tree},
	}
	for name, a := range others {
		for other, b := range others {
			mustBeNone(t, name+" and "+other)(Roots(a, b))
		}
	}
}

// hidden is a binding with its salt.
type hidden struct {
	salt api.Digest
	b    api.Binding
}

// 9.3: a salt and a binding and themselves have no pair, nor have such of which one part is another one, or has bytes of another's.
func TestValuesOfNone(t *testing.T) {
	salt, key := chance(1), []byte("key")
	others := map[string]hidden{
		"itself":           {salt, api.Binding{Name: "ann", Key: key, Serial: 1}},
		"nothing":          {},
		"no bytes of keys": {api.Digest{}, api.Binding{Key: []byte{}}},
		"another salt":     {turned(salt, 0), api.Binding{Name: "ann", Key: key, Serial: 1}},
		"another name":     {salt, api.Binding{Name: "anm", Key: key, Serial: 1}},
		"no name":          {salt, api.Binding{Key: key, Serial: 1}},
		"a longer name":    {salt, api.Binding{Name: "annk", Key: []byte("ey"), Serial: 1}},
		"another serial":   {salt, api.Binding{Name: "ann", Key: key, Serial: 2}},
		"no serial":        {salt, api.Binding{Name: "ann", Key: key}},
		"a great serial":   {salt, api.Binding{Name: "ann", Key: key, Serial: math.MaxUint64}},
		"another key":      {salt, api.Binding{Name: "ann", Key: []byte("kez"), Serial: 1}},
		"a longer key":     {salt, api.Binding{Name: "ann", Key: []byte("key\x00"), Serial: 1}},
		"no key":           {salt, api.Binding{Name: "ann", Serial: 1}},
		"much too long":    {salt, api.Binding{Name: string(make([]byte, 999)), Key: make([]byte, 9999), Serial: 1}},
	}
	for name, a := range others {
		for other, b := range others {
			mustBeNone(t, name+" and "+other)(Values(a.salt, a.b, b.salt, b.b))
		}
	}
}

// 9.4: of two ways of one index that are taken by one root nothing unlike is proved, where there is no pair; those that a tree proves, and those made of them, have none.
func TestRootBinds(t *testing.T) {
	deep := []api.Digest{chance(1), turned(chance(1), 255), turned(chance(1), 100)}
	for name, l := range map[string][]api.Digest{"none": nil, "one": chances(1, 1), "two": {{}, {0x80}}, "deep": deep, "many": chances(1, 20)} {
		x := tree.Of(l, chances(3000, len(l)))
		for _, index := range append(slices.Clone(l[:min(len(l), 5)]), turned(chance(1), 255), chance(4000), api.Digest{}) {
			all := made(index, x.Prove(index))
			taken := 0
			for _, p := range all {
				for _, q := range all {
					taken += mustBind(t, name, x.Root(), index, p, q)
				}
			}
			if taken == 0 {
				t.Errorf("%s: not even what the tree proves is taken", name)
			}
		}
	}
}

// made is a way, again, and ways like it of which something is another one.
func made(index api.Digest, p api.Proof) []api.Proof {
	l := []api.Proof{p, {Sides: slices.Clone(p.Sides), End: p.End, Index: p.Index, Value: p.Value},
		{Sides: p.Sides}, {Sides: p.Sides, End: api.EndLeaf, Index: index, Value: chance(1)},
		{Sides: p.Sides, End: p.End, Index: p.Index, Value: turned(p.Value, 0)},
		{Sides: append(slices.Clone(p.Sides), chance(1)), End: p.End, Index: p.Index, Value: p.Value}}
	if n := len(p.Sides); n > 0 {
		other := slices.Clone(p.Sides)
		other[n-1] = turned(other[n-1], 0)
		l = append(l, api.Proof{Sides: p.Sides[:n-1], End: p.End, Index: p.Index, Value: p.Value}, api.Proof{Sides: other, End: p.End, Index: p.Index, Value: p.Value})
	}
	return l
}

// mustBind is 1 if two ways are taken by a root, which must prove the same then, and must have no pair.
func mustBind(t *testing.T, name string, root, index api.Digest, p, q api.Proof) int {
	t.Helper()
	mustBeNone(t, name)(Ways(index, p, q))
	v, there, e := proof.Check(root, index, p)
	w, also, f := proof.Check(root, index, q)
	if e != api.OK || f != api.OK {
		return 0
	}
	if v != w || there != also {
		t.Errorf("%s: one root proves %x, %v and %x, %v, and there is no pair", name, v, there, w, also)
	}
	return 1
}

// R3: what is handed in stays as it was.
func TestHandedInStays(t *testing.T) {
	room := []byte("one text and another")
	one, another := room[:8], room[4:12]
	lists := [][]byte{one, another, one, nil}
	sides := chances(0, 9)
	p := api.Proof{Sides: sides[:4], End: api.EndLeaf, Index: chance(1), Value: chance(2)}
	q := api.Proof{Sides: sides[2:7], End: api.EndEmpty}
	Pair(one, another)
	First(lists[:2], lists[1:3])
	First(lists[:0], lists[:1])
	Ways(chance(1), p, q)
	Values(chance(1), api.Binding{Name: "ann", Key: one}, chance(1), api.Binding{Name: "ann", Key: another})
	if string(room) != "one text and another" || !slices.Equal(sides, chances(0, 9)) {
		t.Error("a text that was handed in is another one")
	}
	if !slices.EqualFunc(lists, [][]byte{[]byte("one text"), []byte("text and"), []byte("one text"), nil}, bytes.Equal) {
		t.Error("a list that was handed in is another one")
	}
}

// P1: each call ends and none panics, on ways that are much too long and lists of which one is.
func TestLong(t *testing.T) {
	long := api.Proof{Sides: make([]api.Digest, 5000)}
	mustBeNone(t, "a long way and none")(Ways(filled(0xff), long, api.Proof{}))
	mustBeNone(t, "no way and a long one")(Ways(filled(0xff), api.Proof{}, long))
	mustBeNone(t, "a long way and itself")(Ways(filled(0xff), long, long))
	mustBeNone(t, "a long list and none")(First(make([][]byte, 1<<18), nil))
	mustBeNone(t, "a list and a long one")(First(texts("a"), make([][]byte, 1<<18)))
	mustBeNone(t, "a long list and itself")(First(make([][]byte, 1<<18), make([][]byte, 1<<18)))
}
