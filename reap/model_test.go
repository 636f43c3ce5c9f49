package reap_test

// What the chapter says, word by word: the tests hold the package against it.

import (
	"bytes"
	"crypto/sha256"
	"maps"
	"math/rand/v2"
	"slices"
	"strconv"
	"testing"

	"blazon/api"
	"blazon/pages"
	"blazon/reap"
	"blazon/tree"
)

// hashOf is what tags.Of must be.
func hashOf(b []byte) api.Digest {
	return sha256.Sum256(b)
}

// hashesOf is the digests of texts.
func hashesOf(l ...[]byte) (all []api.Digest) {
	for _, b := range l {
		all = append(all, hashOf(b))
	}
	return all
}

// compared is how two digests stand to each other, byte by byte.
func compared(a, b api.Digest) int {
	return bytes.Compare(a[:], b[:])
}

// liveOf is 18.1, word by word.
func liveOf(links []api.Digest, l [][]byte) ([]api.Digest, api.Errno) {
	all := map[api.Digest]int{}
	for _, d := range links {
		t, e := pages.Load(d, l)
		if e != api.OK {
			return nil, e
		}
		_, told := pages.Save(t)
		for _, b := range told {
			all[hashOf(b)]++
		}
	}
	return slices.SortedFunc(maps.Keys(all), compared), api.OK
}

// splitOf is 18.2, word by word.
func splitOf(links []api.Digest, l [][]byte) (need, idles [][]byte, e api.Errno) {
	live, e := liveOf(links, l)
	if e != api.OK {
		return nil, nil, e
	}
	for _, b := range l {
		if slices.Contains(live, hashOf(b)) {
			need = append(need, b)
		} else {
			idles = append(idles, b)
		}
	}
	return need, idles, api.OK
}

// told is what both calls tell.
type told struct {
	live        []api.Digest
	need, idles [][]byte
}

// mustTell asks both calls: they must tell that error, and nothing beside it, or what the words do; the same again; in new memory; and leave what is handed in.
func mustTell(t *testing.T, name string, links []api.Digest, l [][]byte, want api.Errno) told {
	t.Helper()
	wasLinks, was := slices.Clone(links), own(l)
	live, e := liveOf(links, l)
	need, idles, f := splitOf(links, l)
	if e != want || f != want {
		t.Fatalf("%s: by the words %d, %d; the test wants %d", name, e, f, want)
	}
	var last told
	for range 2 {
		var got told
		if got.live, e = reap.Live(links, l); e != want || !slices.Equal(got.live, live) {
			t.Errorf("%s: Live: %d, %x; want %d, %x", name, e, got.live, want, live)
		}
		if got.need, got.idles, f = reap.Split(links, l); f != want || !same(got.need, need) || !same(got.idles, idles) {
			t.Errorf("%s: Split: %d, %x, %x; want %d, %x, %x", name, f, got.need, got.idles, want, need, idles)
		}
		mustBeNew(t, name, last, got)
		last = told{slices.Clone(got.live), own(got.need), own(got.idles)}
		spoil(got)
		if !slices.Equal(links, wasLinks) || !same(l, was) {
			t.Errorf("%s: what is handed in was changed, or shares memory with what is told", name)
		}
	}
	return last
}

// mustBeNew is of what is told again: it must be the same, and no two parts of it share memory.
func mustBeNew(t *testing.T, name string, was, got told) {
	t.Helper()
	if was.live != nil && (!slices.Equal(was.live, got.live) || !same(was.need, got.need) || !same(was.idles, got.idles)) {
		t.Errorf("%s: another time something else is told", name)
	}
	need, idles := own(got.need), own(got.idles)
	_ = append(got.live, api.Digest{1})
	_ = append(append(got.need, []byte("a")), append(got.idles, []byte("b"))...)
	for _, b := range slices.Concat(got.need, got.idles) {
		_ = append(b, "behind it"...)
	}
	if !same(need, got.need) || !same(idles, got.idles) {
		t.Errorf("%s: what is put behind a part of what is told changes another one", name)
	}
	mustTurn(t, name, slices.Concat(got.need, got.idles))
}

// mustTurn turns each byte of each page, and back: of pages that share memory some are turned twice.
func mustTurn(t *testing.T, name string, l [][]byte) {
	t.Helper()
	turn := func() {
		for _, b := range l {
			for k := range b {
				b[k] ^= 0xff
			}
		}
	}
	was := own(l)
	turn()
	for i, b := range l {
		if len(b) > 0 && b[0] != was[i][0]^0xff {
			t.Errorf("%s: page %d shares memory with another one", name, i)
		}
	}
	turn()
}

// spoil writes over all memory of what was told, to its very end.
func spoil(x told) {
	for i := range x.live[:cap(x.live)] {
		x.live[:cap(x.live)][i] = api.Digest{0xee}
	}
	for _, l := range [][][]byte{x.need, x.idles} {
		for _, b := range l {
			b = b[:cap(b)]
			for k := range b {
				b[k] = 0xee
			}
		}
		clear(l[:cap(l)])
	}
}

// same tells whether two lists have the same texts.
func same(a, b [][]byte) bool {
	return slices.EqualFunc(a, b, bytes.Equal)
}

// own is a list with texts in memory of its own.
func own(l [][]byte) (m [][]byte) {
	for _, b := range l {
		m = append(m, bytes.Clone(b))
	}
	return m
}

// chance is a digest that is like chance, but the same one each time.
func chance(i int) api.Digest {
	return sha256.Sum256([]byte(strconv.Itoa(i)))
}

// turned is a digest of which that bit is the other one.
func turned(d api.Digest, bit int) api.Digest {
	d[bit/8] ^= 1 << (7 - bit%8)
	return d
}

// kept is a tree, the digest of its first page, and its pages.
type kept struct {
	name string
	tree *tree.Tree
	link api.Digest
	l    [][]byte
}

// keptOf is a tree with its pages.
func keptOf(name string, t *tree.Tree) kept {
	d, l := pages.Save(t)
	return kept{name, t, d, l}
}

// numbered is a tree of leaves at those indexes, with values of their own.
func numbered(indexes ...api.Digest) *tree.Tree {
	var values []api.Digest
	for i := range indexes {
		values = append(values, chance(1000+i))
	}
	return tree.Of(indexes, values)
}

// likeChance is a tree of so many leaves that are like chance.
func likeChance(n int) *tree.Tree {
	var indexes []api.Digest
	for i := range n {
		indexes = append(indexes, chance(i))
	}
	return numbered(indexes...)
}

// comb is a tree of leaves of which each parts from that index at another bit, and that one.
func comb(d api.Digest) *tree.Tree {
	indexes := []api.Digest{d}
	for i := range 256 {
		indexes = append(indexes, turned(d, i))
	}
	return numbered(indexes...)
}

// samples is trees of many shapes: flat, deep, of one page and of many.
func samples() []kept {
	return []kept{
		keptOf("none", tree.Empty()),
		keptOf("one", numbered(chance(1))),
		keptOf("two on one page", numbered(api.Digest{1}, api.Digest{0x80})),
		keptOf("two that just fit on one page", numbered(api.Digest{}, turned(api.Digest{}, 190))),
		keptOf("two on two pages", numbered(api.Digest{}, turned(api.Digest{}, 191))),
		keptOf("two that part at the last bit", numbered(chance(3), turned(chance(3), 255))),
		keptOf("seven", likeChance(7)),
		keptOf("40", likeChance(40)),
		keptOf("300", likeChance(300)),
		keptOf("a comb", comb(chance(7))),
	}
}

// growing is a directory, epoch by epoch: each has a leaf more than the one ahead, or another value of one.
func growing(dice *rand.Rand, epochs int) []kept {
	l := []kept{keptOf("epoch 0", tree.Empty())}
	t := l[0].tree
	for i := range epochs {
		for range dice.IntN(6) { // in some of them nothing changes
			t = t.Put(chance(dice.IntN(60)), chance(dice.IntN(1000)))
		}
		l = append(l, keptOf("epoch "+strconv.Itoa(i+1), t))
	}
	return l
}

// linksOf is the digests of trees' first pages.
func linksOf(l []kept) (links []api.Digest) {
	for _, k := range l {
		links = append(links, k.link)
	}
	return links
}

// allOf is the pages of trees, one tree behind the other.
func allOf(l []kept) (all [][]byte) {
	for _, k := range l {
		all = append(all, k.l...)
	}
	return all
}

// foreign is pages that belong to no tree of the tests, some of which are no pages at all.
func foreign() [][]byte {
	_, l := pages.Save(numbered(chance(70), chance(71), turned(chance(71), 240)))
	return append(l, nil, []byte{}, []byte{0, 0}, []byte{3}, []byte{4}, []byte("no page"), make([]byte, 5000))
}
